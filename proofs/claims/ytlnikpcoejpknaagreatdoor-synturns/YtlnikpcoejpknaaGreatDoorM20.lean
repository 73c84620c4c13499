/- What is written is read: lists, pieces. -/
import Derived.Test.YtlnikpcoejpknaaGreatDoorM18
namespace Go.Proofs.YtlnikpcoejpknaaGreatDoor
open Go.RowKit
namespace Sy

theorem nm_word {w : ByteArray} (h : nm w = true) : Lx.Gw w ∧ Lx.kd w = 1 := by
  have h' : Lx.named w.data.toList = true := by rw [← toList_eq]; exact h
  unfold Lx.named at h'
  simp only [Bool.and_eq_true, decide_eq_true_eq] at h'
  obtain ⟨⟨⟨⟨h1, _⟩, h2⟩, h3⟩, _⟩ := h'
  cases hw : w.data.toList with
  | nil => rw [hw] at h1; simp at h1
  | cons c l =>
    rw [hw] at h2 h3
    simp only [List.head?_cons, Option.map_some, Option.getD_some] at h3
    exact Lx.gw_word hw h3 (fun x hx => List.all_eq_true.1 h2 x (by simp [hx]))
theorem nm_ne {w s : ByteArray} (h : nm w = true) (hs : nm s = false) : w ≠ s := fun e => by rw [e, hs] at h; cases h

theorem num_word {n : Int} (h0 : 0 ≤ n) (h1 : n ≤ 999999999999999) : Lx.Gw (numT n) ∧ Lx.kd (numT n) = 2 ∧ (Lx.nu (numT n) : Int) = n := by
  have e : (numT n).data.toList = Lib.decDigits n.toNat := by
    unfold numT Lib.itoa
    rw [if_neg (by omega)]
  have ez : (numT n).size = (Lib.decDigits n.toNat).length := by rw [← e]; rfl
  obtain ⟨d1, d2, d3⟩ := Lx.dec_digits n.toNat
  have d4 := Lx.dec_len n.toNat (by omega)
  obtain ⟨g1, g2, g3⟩ := Lx.gw_num (w := numT n) (by omega) (by omega) (by rw [e]; exact d1)
  refine ⟨g1, g2, ?_⟩
  rw [g3, e, d2]
  omega
theorem num_ne {n : Int} (h0 : 0 ≤ n) (h1 : n ≤ 999999999999999) {s : ByteArray} (hs : Lx.kd s ≠ 2) : numT n ≠ s := fun e => hs (by rw [← e]; exact (num_word h0 h1).2.1)

theorem listT_one {α : Type} (f : α → List ByteArray) : ∀ (l : List α) (i : Nat), listT f (i + 1) l = listT f 1 l
  | [], _ => rfl
  | a :: l, i => by
    rw [listT, listT, listT_one f l (i + 1), listT_one f l 1]
    simp
theorem listT_cons {α : Type} (f : α → List ByteArray) (a : α) (l : List α) : listT f 0 (a :: l) = f a ++ listT f 1 l := by
  rw [listT]
  simp
theorem listT_next {α : Type} (f : α → List ByteArray) (a : α) (l : List α) : listT f 1 (a :: l) = ⟨#[44]⟩ :: (f a ++ listT f 1 l) := by
  rw [listT, listT_one f l 1]
  simp

end Sy

namespace Rp
section
variable {l : List Lx.Tk} {en : Nat}

/-- In brackets, if need be. -/
theorem br_from {d : Nat} {x : Sy.Ex} (hM : Mx l en d x) {L : Int} {D k p : Nat} (hD : 2 * d + 1 ≤ D) (hk : k ≤ 5) (hL : 6 - (k : Int) ≤ L) (h : At l p (Sy.brT (Sy.exT d) L x)) (hf : Fol l en (p + (Sy.brT (Sy.exT d) L x).length) (6 - k)) :
    from' l en (ahead l en D) k p = .ok (p + (Sy.brT (Sy.exT d) L x).length, Sy.exB d x) := by
  unfold Sy.brT at h hf ⊢
  split at h
  · rename_i h1
    rw [if_pos h1] at hf ⊢
    exact hM D k p (by omega) hk (by omega) h hf
  · rename_i h1
    rw [if_neg h1] at hf ⊢
    have hl : (([⟨#[40]⟩] : List ByteArray) ++ Sy.exT d x ++ ([⟨#[41]⟩] : List ByteArray)).length = (Sy.exT d x).length + 2 := by simp
    rw [hl, ← Nat.add_assoc] at hf ⊢
    exact from_pass (br_ahead hM hD h) k hk hf.1

/-- What stands behind a thing of a list. -/
def Lf (l : List Lx.Tk) (en q : Nat) : Prop := Wd l en q ⟨#[44]⟩ ∨ Wd l en q ⟨#[41]⟩
theorem Lf.fol {q : Nat} (h : Lf l en q) {L : Int} (hL : 1 ≤ L) : Fol l en q L := by
  rcases h with h | h
  · have e : (Rp.sign (⟨#[44]⟩ : ByteArray)).2 = 0 := by decide
    exact wd_fol h (by omega) (by decide)
  · have e : (Rp.sign (⟨#[41]⟩ : ByteArray)).2 = 0 := by decide
    exact wd_fol h (by omega) (by decide)

theorem items_list {α β : Type} {f : α → List ByteArray} {g : α → β} {bg : Lx.Tk → Bool} {one : Nat → Res β} : ∀ (ks : List α) (a : α) (F : Nat) (out : List β) (p : Nat), (∀ x ∈ a :: ks, ∀ p, At l p (f x) → Lf l en (p + (f x).length) → one p = .ok (p + (f x).length, g x)) →
    out.length + (ks.length + 1) ≤ 6 → At l p (f a ++ Sy.listT f 1 ks ++ [⟨#[41]⟩]) → ks.length < F → items l en bg one F out p = .ok (p + (f a ++ Sy.listT f 1 ks).length + 1, out ++ (a :: ks).map g)
  | _, _, 0, _, _, _, _, _, hF => by omega
  | [], a, F + 1, out, p, ho, hn, h, _ => by
    obtain ⟨h1, h2⟩ := at_app h
    obtain ⟨h3, _⟩ := at_app h1
    obtain ⟨w2, _⟩ := at_cons (en := en) h2
    have e : f a ++ Sy.listT f 1 [] = f a := by simp [Sy.listT]
    rw [e] at w2 ⊢
    rw [items]
    have hlim : limitL bg (out.length : Nat) 6 (pk l p en) p = .ok p := by unfold limitL; rw [if_neg (by simp at hn; omega)]
    rw [hlim]
    refine (then_ok (ho a (by simp) p h3 (.inr w2))).trans ?_
    rw [w2.tk, if_pos (by decide)]
    simp
  | b :: ks, a, F + 1, out, p, ho, hn, h, hF => by
    obtain ⟨h1, h2⟩ := at_app h
    obtain ⟨h3, h4⟩ := at_app h1
    rw [Sy.listT_next] at h4 h2 ⊢
    obtain ⟨w1, h5⟩ := at_cons (en := en) h4
    have hin : At l (p + (f a).length + 1) (f b ++ Sy.listT f 1 ks ++ [⟨#[41]⟩]) := by
      intro i w hi
      have := h ((f a).length + 1 + i) w (by
        rw [Sy.listT_next, List.append_assoc, List.getElem?_append_right (by omega), show (f a).length + 1 + i - (f a).length = i + 1 by omega, List.cons_append, List.getElem?_cons_succ]
        exact hi)
      rwa [show p + ((f a).length + 1 + i) = p + (f a).length + 1 + i by omega] at this
    rw [items]
    have hlim : limitL bg (out.length : Nat) 6 (pk l p en) p = .ok p := by unfold limitL; rw [if_neg (by simp at hn; omega)]
    rw [hlim]
    refine (then_ok (ho a (by simp) p h3 (.inl w1))).trans ?_
    rw [w1.tk, if_neg (by decide)]
    refine (then_ok (wd_want w1)).trans ?_
    rw [items_list ks b F (out ++ [g a]) (p + (f a).length + 1) (fun x hx => ho x (List.mem_cons_of_mem _ hx)) (by simp at hn ⊢; omega) hin (by simp at hF; omega)]
    simp
    omega
theorem list_list {α β : Type} {f : α → List ByteArray} {g : α → β} {bg : Lx.Tk → Bool} {one : Nat → Res β} {ks : List α} {p : Nat} (ho : ∀ x ∈ ks, ∀ p, At l p (f x) → Lf l en (p + (f x).length) → one p = .ok (p + (f x).length, g x))
    (hb : ∀ x ∈ ks, ∃ w r, f x = w :: r ∧ w ≠ ⟨#[41]⟩) (hn : ks.length ≤ 6) (h : At l p ([⟨#[40]⟩] ++ Sy.listT f 0 ks ++ [⟨#[41]⟩])) : list l en bg one p = .ok (p + (Sy.listT f 0 ks).length + 2, ks.map g) := by
  rw [List.append_assoc, List.singleton_append] at h
  obtain ⟨w1, h1⟩ := at_cons (en := en) h
  unfold list
  refine (then_ok (wd_want w1)).trans ?_
  cases ks with
  | nil =>
    obtain ⟨w2, _⟩ := at_cons (en := en) (show At l (p + 1) (⟨#[41]⟩ :: []) from h1)
    rw [w2.tk, if_pos (by decide)]
    simp [Sy.listT]
  | cons a ks =>
    rw [Sy.listT_cons] at h1 ⊢
    obtain ⟨w, r, hw, hne⟩ := hb a (by simp)
    have h1' := h1
    rw [hw, List.cons_append, List.cons_append] at h1'
    obtain ⟨w2, _⟩ := at_cons (en := en) h1'
    rw [w2.tk, if_neg (by simpa using hne)]
    have hF : ks.length < l.length + 1 := by
      have := (at_app h1).2
      obtain ⟨w3, _⟩ := at_cons (en := en) this
      have h3 := w3.lt
      have h4 : ∀ (ks : List α), ks.length ≤ (Sy.listT f 1 ks).length := by
        intro ks
        induction ks with
        | nil => simp
        | cons b ks ih => rw [Sy.listT_next]; simp; omega
      have h5 := h4 ks
      rw [List.length_append] at h3
      omega
    rw [items_list ks a (l.length + 1) [] (p + 1) ho (by simpa using hn) h1 hF]
    simp
    omega

/-- A kid. -/
theorem kid_one {d D : Nat} {x : Sy.Ex} (hM : Mx l en d x) (hD : 2 * d + 1 ≤ D) (p : Nat) (h : At l p (Sy.exT d x)) (hf : Fol l en (p + (Sy.exT d x).length) 1) : expr l en D (prevOf l en D) p = .ok (p + (Sy.exT d x).length, Sy.exB d x) := by
  unfold expr
  rw [if_neg (by omega)]
  obtain ⟨D', rfl⟩ : ∃ D', D = D' + 1 := ⟨D - 1, by omega⟩
  exact hM D' 5 p (by omega) (by omega) (by have := (levelOf_pos x.kind).1; omega) h (hf.mono (by omega))

end
end Rp

namespace Sy

theorem exT_bin {d : Nat} {x a b : Ex} (hl : 0 < lev x.kind) (hab : x.kids = [a, b]) : exT (d + 1) x = brT (exT d) (if lev x.kind = 3 then 4 else lev x.kind) a ++ [sign x.kind] ++ brT (exT d) (lev x.kind + 1) b := by
  rw [exT, if_pos hl, hab]
theorem lev_not {k : Int} (h : k = 1 ∨ k = 2 ∨ k = 3 ∨ k = 4 ∨ k = 5 ∨ k = 19 ∨ k = 20 ∨ k = 21 ∨ k = 22 ∨ k = 23 ∨ k = 24) : ¬ 0 < lev k := by
  rcases h with rfl | rfl | rfl | rfl | rfl | rfl | rfl | rfl | rfl | rfl | rfl <;> decide
theorem exT_1 {d : Nat} {x : Ex} (h : x.kind = 1) : exT (d + 1) x = [numT x.n] := by
  rw [exT, if_neg (lev_not (by omega)), if_pos h]
theorem exT_2 {d : Nat} {x : Ex} (h : x.kind = 2) : exT (d + 1) x = [truthT x.n] := by
  rw [exT, if_neg (lev_not (by omega)), if_neg (by omega), if_pos h]
theorem exT_3 {d : Nat} {x : Ex} (h : x.kind = 3) : exT (d + 1) x = [x.name] := by
  rw [exT, if_neg (lev_not (by omega)), if_neg (by omega), if_neg (by omega), if_pos h]
theorem exT_4 {d : Nat} {x a : Ex} (h : x.kind = 4) (ha : x.kids = [a]) : exT (d + 1) x = [⟨#[45]⟩] ++ brT (exT d) 6 a := by
  rw [exT, if_neg (lev_not (by omega)), if_neg (by omega), if_neg (by omega), if_neg (by omega), if_pos h, ha]
  rfl
theorem exT_5 {d : Nat} {x a : Ex} (h : x.kind = 5) (ha : x.kids = [a]) : exT (d + 1) x = [⟨#[110, 111, 116]⟩] ++ brT (exT d) 6 a := by
  rw [exT, if_neg (lev_not (by omega)), if_neg (by omega), if_neg (by omega), if_neg (by omega), if_neg (by omega), if_pos h, ha]
  rfl
theorem exT_19 {d : Nat} {x : Ex} (h : x.kind = 19) : exT (d + 1) x = callT (exT d) [x.name] x.kids := by
  rw [exT, if_neg (lev_not (by omega)), if_neg (by omega), if_neg (by omega), if_neg (by omega), if_neg (by omega), if_neg (by omega), if_pos h]
theorem exT_20 {d : Nat} {x : Ex} (h : x.kind = 20) : exT (d + 1) x = [⟨#[114, 101, 99, 118]⟩, ⟨#[40]⟩, x.name, ⟨#[41]⟩] := by
  rw [exT, if_neg (lev_not (by omega)), if_neg (by omega), if_neg (by omega), if_neg (by omega), if_neg (by omega), if_neg (by omega), if_neg (by omega), if_pos h]
theorem exT_21 {d : Nat} {x : Ex} (h : x.kind = 21) : exT (d + 1) x = callT (exT d) [⟨#[121, 105, 101, 108, 100]⟩] x.kids := by
  rw [exT, if_neg (lev_not (by omega)), if_neg (by omega), if_neg (by omega), if_neg (by omega), if_neg (by omega), if_neg (by omega), if_neg (by omega), if_neg (by omega), if_pos h]
theorem exT_22 {d : Nat} {x : Ex} (h : x.kind = 22) : exT (d + 1) x = callT (exT d) [⟨#[115, 116, 97, 114, 116]⟩, x.name] x.kids := by
  rw [exT, if_neg (lev_not (by omega)), if_neg (by omega), if_neg (by omega), if_neg (by omega), if_neg (by omega), if_neg (by omega), if_neg (by omega), if_neg (by omega), if_neg (by omega), if_pos h]
theorem exT_23 {d : Nat} {x : Ex} (h : x.kind = 23) : exT (d + 1) x = callT (exT d) [⟨#[114, 101, 115, 117, 109, 101]⟩] x.kids := by
  rw [exT, if_neg (lev_not (by omega)), if_neg (by omega), if_neg (by omega), if_neg (by omega), if_neg (by omega), if_neg (by omega), if_neg (by omega), if_neg (by omega), if_neg (by omega), if_neg (by omega), if_pos h]
theorem exT_24 {d : Nat} {x : Ex} (h : x.kind = 24) : exT (d + 1) x = callT (exT d) [⟨#[97, 108, 105, 118, 101]⟩] x.kids := by
  rw [exT, if_neg (lev_not (by omega)), if_neg (by omega), if_neg (by omega), if_neg (by omega), if_neg (by omega), if_neg (by omega), if_neg (by omega), if_neg (by omega), if_neg (by omega), if_neg (by omega), if_neg (by omega)]

theorem kind_all {k : Int} (h1 : 1 ≤ k) (h2 : k ≤ 24) : 0 < lev k ∨ k = 1 ∨ k = 2 ∨ k = 3 ∨ k = 4 ∨ k = 5 ∨ k = 19 ∨ k = 20 ∨ k = 21 ∨ k = 22 ∨ k = 23 ∨ k = 24 := by
  by_cases h : 6 ≤ k ∧ k ≤ 18
  · left
    have hc : k = 6 ∨ k = 7 ∨ k = 8 ∨ k = 9 ∨ k = 10 ∨ k = 11 ∨ k = 12 ∨ k = 13 ∨ k = 14 ∨ k = 15 ∨ k = 16 ∨ k = 17 ∨ k = 18 := by omega
    rcases hc with rfl | rfl | rfl | rfl | rfl | rfl | rfl | rfl | rfl | rfl | rfl | rfl | rfl <;> decide
  · right
    omega

theorem head_nm {x : Ex} (h : exHead x = 0) : (x.kind = 1 → 0 ≤ x.n ∧ x.n ≤ 999999999999999) ∧ (x.kind = 2 → x.n = 0 ∨ x.n = 1) ∧ ((x.kind = 3 ∨ x.kind = 19 ∨ x.kind = 20 ∨ x.kind = 22) → nm x.name = true) := by
  unfold exHead at h
  split at h
  · omega
  · rename_i h1
    split at h
    · omega
    · rename_i h2
      refine ⟨fun hk => by omega, fun hk => by omega, fun hk => ?_⟩
      cases hn : nm x.name with
      | true => rfl
      | false => exact absurd ⟨hk, hn⟩ h2

/-- How an expression's text begins. -/
theorem ex_first : ∀ (d : Nat) (x : Ex), ExOk d x → ∃ w r, exT d x = w :: r ∧ w ≠ ⟨#[41]⟩
  | 0, x, h => h.elim
  | d + 1, x, ⟨h1, h2, h3, h4⟩ => by
    obtain ⟨p1, _, p2⟩ := head_nm h3
    rcases kind_all h1 h2 with hk | hk | hk | hk | hk | hk | hk | hk | hk | hk | hk | hk
    · obtain ⟨a, b, hab⟩ := two_kids h3 (.inl hk)
      obtain ⟨w, r, hw, hne⟩ := ex_first d a (h4 a (by rw [hab]; simp))
      rw [exT_bin hk hab]
      generalize (if lev x.kind = 3 then 4 else lev x.kind) = L
      by_cases hL : L ≤ levelOf a.kind
      · have e : brT (exT d) L a = w :: r := by unfold brT; rw [if_pos hL, hw]
        rw [e]
        exact ⟨w, _, rfl, hne⟩
      · have e : brT (exT d) L a = ⟨#[40]⟩ :: (exT d a ++ [⟨#[41]⟩]) := by unfold brT; rw [if_neg hL]; rfl
        rw [e]
        exact ⟨⟨#[40]⟩, _, rfl, by decide⟩
    · rw [exT_1 hk]; exact ⟨_, _, rfl, num_ne (p1 hk).1 (p1 hk).2 (by decide)⟩
    · rw [exT_2 hk]
      refine ⟨_, _, rfl, ?_⟩
      unfold truthT
      by_cases h : x.n = 1
      · rw [if_pos h]; decide
      · rw [if_neg h]; decide
    · rw [exT_3 hk]; exact ⟨_, _, rfl, nm_ne (p2 (.inl hk)) (by decide +kernel)⟩
    · obtain ⟨a, ha⟩ := one_kid h3 (by omega)
      rw [exT_4 hk ha]; exact ⟨_, _, rfl, by decide⟩
    · obtain ⟨a, ha⟩ := one_kid h3 (by omega)
      rw [exT_5 hk ha]; exact ⟨_, _, rfl, by decide⟩
    · rw [exT_19 hk]; exact ⟨_, _, rfl, nm_ne (p2 (.inr (.inl hk))) (by decide +kernel)⟩
    · rw [exT_20 hk]; exact ⟨_, _, rfl, by decide⟩
    · rw [exT_21 hk]; exact ⟨_, _, rfl, by decide⟩
    · rw [exT_22 hk]; exact ⟨_, _, rfl, by decide⟩
    · rw [exT_23 hk]; exact ⟨_, _, rfl, by decide⟩
    · rw [exT_24 hk]; exact ⟨_, _, rfl, by decide⟩
end Sy
end Go.Proofs.YtlnikpcoejpknaaGreatDoor

/- What is written is read: pieces. -/
namespace Go.Proofs.YtlnikpcoejpknaaGreatDoor
open Go.RowKit
namespace Rp
section
variable {l : List Lx.Tk} {en : Nat}

theorem name_ahead {D p : Nat} {w : ByteArray} (h : Wd l en p w) (hn : Sy.nm w = true) : ahead l en D p = named l en D (prevOf l en D) p := by
  have e : ∀ s, Sy.nm s = false → tk l p s = false := fun s hs => by rw [h.tk]; simpa using Sy.nm_ne hn hs
  have k := (Sy.nm_word hn).2
  rw [ahead_eq]
  unfold aheadS piece
  rw [e ⟨#[45]⟩ (by decide +kernel), e ⟨#[110, 111, 116]⟩ (by decide +kernel), e ⟨#[40]⟩ (by decide +kernel), e ⟨#[116, 114, 117, 101]⟩ (by decide +kernel), e ⟨#[102, 97, 108, 115, 101]⟩ (by decide +kernel), e ⟨#[115, 116, 97, 114, 116]⟩ (by decide +kernel), e ⟨#[114, 101, 99, 118]⟩ (by decide +kernel),
    e ⟨#[121, 105, 101, 108, 100]⟩ (by decide +kernel), e ⟨#[97, 108, 105, 118, 101]⟩ (by decide +kernel), e ⟨#[114, 101, 115, 117, 109, 101]⟩ (by decide +kernel), h.kind, k]
  simp

/-- A word that is kept: which way the reader goes. -/
theorem kept_ahead {D p : Nat} {w : ByteArray} (h : Wd l en p w) (hk : Lx.kd w ≠ 2) : ahead l en D p =
    if w = ⟨#[45]⟩ then turned l en D (prevOf l en D) 4 (p + 1) else if w = ⟨#[110, 111, 116]⟩ then turned l en D (prevOf l en D) 5 (p + 1)
    else if w = ⟨#[40]⟩ then andThen (expr l en D (prevOf l en D) (p + 1)) fun q x => andThen (want l en ⟨#[41]⟩ q) fun q2 _ => .ok (q2, x)
    else if w = ⟨#[116, 114, 117, 101]⟩ then .ok (p + 1, ⟨2, 1, ⟨#[]⟩, []⟩)
    else if w = ⟨#[102, 97, 108, 115, 101]⟩ then .ok (p + 1, ⟨2, 0, ⟨#[]⟩, []⟩)
    else if w = ⟨#[115, 116, 97, 114, 116]⟩ then andThen (name l en (p + 1)) fun q s => andThen (kids l en D (prevOf l en D) q) fun q2 ks => .ok (q2, ⟨22, 0, s, ks⟩)
    else if w = ⟨#[114, 101, 99, 118]⟩ then receiving l en (p + 1)
    else if w = ⟨#[121, 105, 101, 108, 100]⟩ then andThen (exactly1 l en D (prevOf l en D) (p + 1)) fun q ks => .ok (q, ⟨21, 0, ⟨#[]⟩, ks⟩)
    else if w = ⟨#[97, 108, 105, 118, 101]⟩ then andThen (exactly1 l en D (prevOf l en D) (p + 1)) fun q ks => .ok (q, ⟨24, 0, ⟨#[]⟩, ks⟩)
    else if w = ⟨#[114, 101, 115, 117, 109, 101]⟩ then andThen (exactly2 l en D (prevOf l en D) (p + 1)) fun q ks => .ok (q, ⟨23, 0, ⟨#[]⟩, ks⟩)
    else named l en D (prevOf l en D) p := by
  rw [ahead_eq]
  unfold aheadS piece
  simp only [h.tk, h.kind, hk, decide_eq_true_eq, if_false]

theorem ex1_ok {d D p : Nat} {x : Sy.Ex} (hM : Mx l en d x) (hD : 2 * d + 1 ≤ D) (h : At l p (⟨#[40]⟩ :: (Sy.exT d x ++ [⟨#[41]⟩]))) : exactly1 l en D (prevOf l en D) p = .ok (p + (Sy.exT d x).length + 2, [Sy.exB d x]) := by
  obtain ⟨w1, h⟩ := at_cons (en := en) h
  obtain ⟨h1, h2⟩ := at_app h
  obtain ⟨w2, _⟩ := at_cons (en := en) h2
  unfold exactly1
  refine (then_ok (wd_want w1)).trans ?_
  refine (then_ok (kid_one hM hD (p + 1) h1 (wd_fol w2 (by decide) (by decide)))).trans ?_
  refine (then_ok (wd_want w2)).trans ?_
  rw [show p + 1 + (Sy.exT d x).length + 1 = p + (Sy.exT d x).length + 2 by omega]
theorem ex2_ok {d D p : Nat} {x y : Sy.Ex} (hM : Mx l en d x) (hN : Mx l en d y) (hD : 2 * d + 1 ≤ D) (h : At l p (⟨#[40]⟩ :: (Sy.exT d x ++ (⟨#[44]⟩ :: (Sy.exT d y ++ [⟨#[41]⟩]))))) : exactly2 l en D (prevOf l en D) p = .ok (p + (Sy.exT d x).length + (Sy.exT d y).length + 3, [Sy.exB d x, Sy.exB d y]) := by
  obtain ⟨w1, h⟩ := at_cons (en := en) h
  obtain ⟨h1, h⟩ := at_app h
  obtain ⟨w2, h⟩ := at_cons (en := en) h
  obtain ⟨h2, h⟩ := at_app h
  obtain ⟨w3, _⟩ := at_cons (en := en) h
  unfold exactly2
  refine (then_ok (wd_want w1)).trans ?_
  refine (then_ok (kid_one hM hD (p + 1) h1 (wd_fol w2 (by decide) (by decide)))).trans ?_
  refine (then_ok (wd_want w2)).trans ?_
  refine (then_ok (kid_one hN hD _ h2 (wd_fol w3 (by decide) (by decide)))).trans ?_
  refine (then_ok (wd_want w3)).trans ?_
  rw [show p + 1 + (Sy.exT d x).length + 1 + (Sy.exT d y).length + 1 = p + (Sy.exT d x).length + (Sy.exT d y).length + 3 by omega]

/-- Kids. -/
theorem kids_ok {d D p : Nat} {ks : List Sy.Ex} (hM : ∀ k ∈ ks, Sy.ExOk d k ∧ Mx l en d k) (hD : 2 * d + 1 ≤ D) (hn : ks.length ≤ 6) (h : At l p ([⟨#[40]⟩] ++ Sy.listT (Sy.exT d) 0 ks ++ [⟨#[41]⟩])) : kids l en D (prevOf l en D) p = .ok (p + (Sy.listT (Sy.exT d) 0 ks).length + 2, ks.map (Sy.exB d)) :=
  list_list (f := Sy.exT d) (g := Sy.exB d) (fun x hx p hp hf => kid_one (hM x hx).2 hD p hp (hf.fol (by omega))) (fun x hx => Sy.ex_first d x (hM x hx).1) hn h

/-- WHAT STANDS BY ITSELF: a piece, or a sign ahead of one. -/
theorem ahead_ok {d : Nat} {x : Sy.Ex} (hx : Sy.ExOk (d + 1) x) (hl : ¬ 0 < Sy.lev x.kind) (hM : ∀ k ∈ x.kids, Mx l en d k) {D p : Nat} (hD : 2 * (d + 1) ≤ D) (h : At l p (Sy.exT (d + 1) x)) (hf : (pk l (p + (Sy.exT (d + 1) x).length) en).text ≠ ⟨#[40]⟩) :
    ahead l en D p = .ok (p + (Sy.exT (d + 1) x).length, Sy.exB (d + 1) x) := by
  obtain ⟨h1, h2, h3, h4⟩ := hx
  obtain ⟨p1, p2, p3⟩ := Sy.head_nm h3
  have hK : ∀ k ∈ x.kids, Sy.ExOk d k ∧ Mx l en d k := fun k hk => ⟨h4 k hk, hM k hk⟩
  rcases Sy.kind_all h1 h2 with hk | hk | hk | hk | hk | hk | hk | hk | hk | hk | hk | hk
  · exact absurd hk hl
  · -- a number
    rw [Sy.exT_1 hk] at h ⊢
    obtain ⟨w1, _⟩ := at_cons (en := en) h
    obtain ⟨_, n2, n3⟩ := Sy.num_word (p1 hk).1 (p1 hk).2
    have e : ∀ s, Lx.kd s ≠ 2 → tk l p s = false := fun s hs => by rw [w1.tk]; simpa using Sy.num_ne (p1 hk).1 (p1 hk).2 hs
    have hB : Sy.exB (d + 1) x = ⟨1, x.n, ⟨#[]⟩, []⟩ := by rw [Sy.exB, Sy.no_kids h3 (by omega)]; simp [hk]
    rw [ahead_eq, hB]
    unfold aheadS piece
    rw [e ⟨#[45]⟩ (by decide), e ⟨#[110, 111, 116]⟩ (by decide), w1.kind, n2, w1.num, n3]
    simp
  · -- a truth
    rw [Sy.exT_2 hk] at h ⊢
    obtain ⟨w1, _⟩ := at_cons (en := en) h
    have hB : Sy.exB (d + 1) x = ⟨2, x.n, ⟨#[]⟩, []⟩ := by rw [Sy.exB, Sy.no_kids h3 (by omega)]; simp [hk]
    rw [hB]
    rcases p2 hk with hn | hn
    · have ht : Sy.truthT x.n = ⟨#[102, 97, 108, 115, 101]⟩ := by rw [hn]; decide
      rw [ht] at w1
      rw [kept_ahead w1 (by decide), hn]
      rfl
    · have ht : Sy.truthT x.n = ⟨#[116, 114, 117, 101]⟩ := by rw [hn]; decide
      rw [ht] at w1
      rw [kept_ahead w1 (by decide), hn]
      rfl
  · -- a name
    rw [Sy.exT_3 hk] at h hf ⊢
    obtain ⟨w1, _⟩ := at_cons (en := en) h
    have hn := p3 (.inl hk)
    have hB : Sy.exB (d + 1) x = ⟨3, 0, x.name, []⟩ := by rw [Sy.exB, Sy.no_kids h3 (by omega)]; simp [hk]
    rw [name_ahead w1 hn, hB]
    unfold named
    refine (then_ok (wd_name w1 hn (Sy.nm_word hn).2)).trans ?_
    have hf' : (pk l (p + 1) en).text ≠ ⟨#[40]⟩ := hf
    rw [if_neg hf']
    rfl
  · -- less
    obtain ⟨a, ha⟩ := Sy.one_kid h3 (by omega)
    rw [Sy.exT_4 hk ha, List.singleton_append] at h hf ⊢
    obtain ⟨w1, h5⟩ := at_cons (en := en) h
    have hB : Sy.exB (d + 1) x = ⟨4, 0, ⟨#[]⟩, [Sy.exB d a]⟩ := by rw [Sy.exB, ha]; simp [hk]
    rw [kept_ahead w1 (by decide), if_pos rfl, hB]
    unfold turned
    rw [if_neg (by omega)]
    obtain ⟨D', rfl⟩ : ∃ D', D = D' + 1 := ⟨D - 1, by omega⟩
    rw [List.length_cons] at hf ⊢
    have hb : from' l en (ahead l en D') 0 (p + 1) = _ := br_from (hM a (by rw [ha]; simp)) (L := 6) (k := 0) (by omega) (by omega) (by simp) h5 ⟨by have := sign_le (pk l (p + 1 + (Sy.brT (Sy.exT d) 6 a).length) en).text; simp; omega, by rw [show p + 1 + (Sy.brT (Sy.exT d) 6 a).length = p + ((Sy.brT (Sy.exT d) 6 a).length + 1) by omega]; exact hf⟩
    refine (then_ok (r := prevOf l en (D' + 1) (p + 1)) hb).trans ?_
    rw [show p + 1 + (Sy.brT (Sy.exT d) 6 a).length = p + ((Sy.brT (Sy.exT d) 6 a).length + 1) by omega]
  · -- not
    obtain ⟨a, ha⟩ := Sy.one_kid h3 (by omega)
    rw [Sy.exT_5 hk ha, List.singleton_append] at h hf ⊢
    obtain ⟨w1, h5⟩ := at_cons (en := en) h
    have hB : Sy.exB (d + 1) x = ⟨5, 0, ⟨#[]⟩, [Sy.exB d a]⟩ := by rw [Sy.exB, ha]; simp [hk]
    rw [kept_ahead w1 (by decide), if_neg (by decide), if_pos rfl, hB]
    unfold turned
    rw [if_neg (by omega)]
    obtain ⟨D', rfl⟩ : ∃ D', D = D' + 1 := ⟨D - 1, by omega⟩
    rw [List.length_cons] at hf ⊢
    have hb : from' l en (ahead l en D') 0 (p + 1) = _ := br_from (hM a (by rw [ha]; simp)) (L := 6) (k := 0) (by omega) (by omega) (by simp) h5 ⟨by have := sign_le (pk l (p + 1 + (Sy.brT (Sy.exT d) 6 a).length) en).text; simp; omega, by rw [show p + 1 + (Sy.brT (Sy.exT d) 6 a).length = p + ((Sy.brT (Sy.exT d) 6 a).length + 1) by omega]; exact hf⟩
    refine (then_ok (r := prevOf l en (D' + 1) (p + 1)) hb).trans ?_
    rw [show p + 1 + (Sy.brT (Sy.exT d) 6 a).length = p + ((Sy.brT (Sy.exT d) 6 a).length + 1) by omega]
  · -- a call
    rw [Sy.exT_19 hk] at h hf ⊢
    unfold Sy.callT at h hf ⊢
    have hn := p3 (.inr (.inl hk))
    have hB : Sy.exB (d + 1) x = ⟨19, 0, x.name, x.kids.map (Sy.exB d)⟩ := by rw [Sy.exB]; simp [hk]
    rw [List.append_assoc, List.append_assoc, List.singleton_append, ← List.append_assoc] at h
    obtain ⟨w1, h5⟩ := at_cons (en := en) h
    have h6 := h5
    rw [List.append_assoc, List.singleton_append] at h6
    obtain ⟨w2, _⟩ := at_cons (en := en) h6
    rw [name_ahead w1 hn, hB]
    unfold named
    refine (then_ok (wd_name w1 hn (Sy.nm_word hn).2)).trans ?_
    rw [if_pos w2.text]
    refine (then_ok (kids_ok hK (by omega) (Sy.few_kids h3 (.inl hk)) h5)).trans ?_
    simp
    omega
  · -- what is received
    rw [Sy.exT_20 hk] at h ⊢
    have hn := p3 (.inr (.inr (.inl hk)))
    have hB : Sy.exB (d + 1) x = ⟨20, 0, x.name, []⟩ := by rw [Sy.exB, Sy.no_kids h3 (by omega)]; simp [hk]
    obtain ⟨w1, h⟩ := at_cons (en := en) h
    obtain ⟨w2, h⟩ := at_cons (en := en) h
    obtain ⟨w3, h⟩ := at_cons (en := en) h
    obtain ⟨w4, h⟩ := at_cons (en := en) h
    rw [kept_ahead w1 (by decide), hB]
    rw [if_neg (by decide), if_neg (by decide), if_neg (by decide), if_neg (by decide), if_neg (by decide), if_neg (by decide), if_pos rfl]
    unfold receiving
    refine (then_ok (wd_want w2)).trans ?_
    refine (then_ok (wd_name w3 hn (Sy.nm_word hn).2)).trans ?_
    exact (then_ok (wd_want w4)).trans rfl
  · -- yield
    obtain ⟨a, ha⟩ := Sy.one_kid h3 (by omega)
    rw [Sy.exT_21 hk, ha] at h ⊢
    have hB : Sy.exB (d + 1) x = ⟨21, 0, ⟨#[]⟩, [Sy.exB d a]⟩ := by rw [Sy.exB, ha]; simp [hk]
    have e : Sy.callT (Sy.exT d) [⟨#[121, 105, 101, 108, 100]⟩] [a] = ⟨#[121, 105, 101, 108, 100]⟩ :: (⟨#[40]⟩ :: (Sy.exT d a ++ [⟨#[41]⟩])) := by simp [Sy.callT, Sy.listT]
    rw [e] at h ⊢
    obtain ⟨w1, h⟩ := at_cons (en := en) h
    rw [kept_ahead w1 (by decide), hB]
    rw [if_neg (by decide), if_neg (by decide), if_neg (by decide), if_neg (by decide), if_neg (by decide), if_neg (by decide), if_neg (by decide), if_pos rfl]
    refine (then_ok (ex1_ok (hM a (by rw [ha]; simp)) (by omega) h)).trans ?_
    simp
    omega
  · -- start
    rw [Sy.exT_22 hk] at h ⊢
    have hn := p3 (.inr (.inr (.inr hk)))
    have hB : Sy.exB (d + 1) x = ⟨22, 0, x.name, x.kids.map (Sy.exB d)⟩ := by rw [Sy.exB]; simp [hk]
    have e : Sy.callT (Sy.exT d) [⟨#[115, 116, 97, 114, 116]⟩, x.name] x.kids = ⟨#[115, 116, 97, 114, 116]⟩ :: (x.name :: ([⟨#[40]⟩] ++ Sy.listT (Sy.exT d) 0 x.kids ++ [⟨#[41]⟩])) := by simp [Sy.callT]
    rw [e] at h ⊢
    obtain ⟨w1, h⟩ := at_cons (en := en) h
    obtain ⟨w2, h⟩ := at_cons (en := en) h
    rw [kept_ahead w1 (by decide), hB]
    rw [if_neg (by decide), if_neg (by decide), if_neg (by decide), if_neg (by decide), if_neg (by decide), if_pos rfl]
    refine (then_ok (wd_name w2 hn (Sy.nm_word hn).2)).trans ?_
    refine (then_ok (kids_ok hK (by omega) (Sy.few_kids h3 (.inr hk)) h)).trans ?_
    simp
    omega
  · -- resume
    obtain ⟨a, b, ha⟩ := Sy.two_kids h3 (.inr hk)
    rw [Sy.exT_23 hk, ha] at h ⊢
    have hB : Sy.exB (d + 1) x = ⟨23, 0, ⟨#[]⟩, [Sy.exB d a, Sy.exB d b]⟩ := by rw [Sy.exB, ha]; simp [hk]
    have e : Sy.callT (Sy.exT d) [⟨#[114, 101, 115, 117, 109, 101]⟩] [a, b] = ⟨#[114, 101, 115, 117, 109, 101]⟩ :: (⟨#[40]⟩ :: (Sy.exT d a ++ (⟨#[44]⟩ :: (Sy.exT d b ++ [⟨#[41]⟩])))) := by simp [Sy.callT, Sy.listT]
    rw [e] at h ⊢
    obtain ⟨w1, h⟩ := at_cons (en := en) h
    rw [kept_ahead w1 (by decide), hB]
    rw [if_neg (by decide), if_neg (by decide), if_neg (by decide), if_neg (by decide), if_neg (by decide), if_neg (by decide), if_neg (by decide), if_neg (by decide), if_neg (by decide), if_pos rfl]
    refine (then_ok (ex2_ok (hM a (by rw [ha]; simp)) (hM b (by rw [ha]; simp)) (by omega) h)).trans ?_
    simp
    omega
  · -- alive
    obtain ⟨a, ha⟩ := Sy.one_kid h3 (by omega)
    rw [Sy.exT_24 hk, ha] at h ⊢
    have hB : Sy.exB (d + 1) x = ⟨24, 0, ⟨#[]⟩, [Sy.exB d a]⟩ := by rw [Sy.exB, ha]; simp [hk]
    have e : Sy.callT (Sy.exT d) [⟨#[97, 108, 105, 118, 101]⟩] [a] = ⟨#[97, 108, 105, 118, 101]⟩ :: (⟨#[40]⟩ :: (Sy.exT d a ++ [⟨#[41]⟩])) := by simp [Sy.callT, Sy.listT]
    rw [e] at h ⊢
    obtain ⟨w1, h⟩ := at_cons (en := en) h
    rw [kept_ahead w1 (by decide), hB]
    rw [if_neg (by decide), if_neg (by decide), if_neg (by decide), if_neg (by decide), if_neg (by decide), if_neg (by decide), if_neg (by decide), if_neg (by decide), if_pos rfl]
    refine (then_ok (ex1_ok (hM a (by rw [ha]; simp)) (by omega) h)).trans ?_
    simp
    omega

end
end Rp
end Go.Proofs.YtlnikpcoejpknaaGreatDoor

/- What is written is read: every expression. -/
namespace Go.Proofs.YtlnikpcoejpknaaGreatDoor
open Go.RowKit
namespace Rp
section
variable {l : List Lx.Tk} {en : Nat}

theorem loop_stop {next : Nat → Res Sy.Ex} {level : Int} {x : Sy.Ex} {p : Nat} (h : (sign (pk l p en).text).2 ≠ level) : ∀ F, loop l en next level F x p = .ok (p, x)
  | 0 => rfl
  | F + 1 => by rw [loop, if_pos h]

theorem bare_two {d : Nat} {x a b : Sy.Ex} (hk : 0 < Sy.lev x.kind) (hab : x.kids = [a, b]) : Sy.exB (d + 1) x = ⟨x.kind, 0, ⟨#[]⟩, [Sy.exB d a, Sy.exB d b]⟩ := by
  have := (Sy.lev_bin hk).1
  rw [Sy.exB, hab, if_neg (by omega), if_neg (by omega)]
  rfl
theorem levelOf_bin {k : Int} (h : 0 < Sy.lev k) : Sy.levelOf k = Sy.lev k := by unfold Sy.levelOf; rw [if_pos h]
theorem levelOf_not {k : Int} (h : ¬ 0 < Sy.lev k) : Sy.levelOf k = 6 := by unfold Sy.levelOf; rw [if_neg h]
theorem sign_ne {k : Int} (h : 0 < Sy.lev k) : Sy.sign k ≠ ⟨#[40]⟩ := fun e => by
  have h1 := Sy.sign_lev h
  rw [e] at h1
  have h2 : (Rp.sign (⟨#[40]⟩ : ByteArray)).2 = 0 := by decide
  rw [h1] at h2
  simp only at h2
  omega

/-- A sign's words: the first kid, the sign, the second kid. -/
theorem bin_at {d p : Nat} {x a b : Sy.Ex} (hk : 0 < Sy.lev x.kind) (hab : x.kids = [a, b]) (h : At l p (Sy.exT (d + 1) x)) : ∃ A B, A = Sy.brT (Sy.exT d) (if Sy.lev x.kind = 3 then 4 else Sy.lev x.kind) a ∧ B = Sy.brT (Sy.exT d) (Sy.lev x.kind + 1) b ∧ (Sy.exT (d + 1) x).length = A.length + 1 + B.length ∧ At l p A ∧ Wd l en (p + A.length) (Sy.sign x.kind) ∧ At l (p + A.length + 1) B := by
  refine ⟨_, _, rfl, rfl, ?_, ?_⟩
  · rw [Sy.exT_bin hk hab]; simp; omega
  · rw [Sy.exT_bin hk hab, List.append_assoc, List.singleton_append] at h
    obtain ⟨h1, h2⟩ := at_app h
    obtain ⟨w, h3⟩ := at_cons (en := en) h2
    exact ⟨h1, w, h3⟩

/-- The induction's step. -/
theorem both_step {d : Nat} (ih : ∀ x, Sy.ExOk d x → Mx l en d x ∧ Cx l en d x) (x : Sy.Ex) (hx : Sy.ExOk (d + 1) x) : Mx l en (d + 1) x ∧ Cx l en (d + 1) x := by
  have hx' := hx
  obtain ⟨h1, h2, h3, h4⟩ := hx'
  have hM : ∀ k ∈ x.kids, Mx l en d k := fun k hk => (ih k (h4 k hk)).1
  -- as the beginning of a row, given the levels below
  have hC : ∀ k : Nat, k ≤ 4 → k ≠ 2 → (∀ D p : Nat, 2 * (d + 1) ≤ D → 6 - (k : Int) ≤ Sy.levelOf x.kind → At l p (Sy.exT (d + 1) x) → Fol l en (p + (Sy.exT (d + 1) x).length) (6 - k) → from' l en (ahead l en D) k p = .ok (p + (Sy.exT (d + 1) x).length, Sy.exB (d + 1) x)) →
      ∀ D p F : Nat, 2 * (d + 1) ≤ D → 5 - (k : Int) ≤ Sy.levelOf x.kind → At l p (Sy.exT (d + 1) x) → Fol l en (p + (Sy.exT (d + 1) x).length) (6 - k) → l.length < p + F →
      ∃ F', l.length < p + (Sy.exT (d + 1) x).length + F' ∧ andThen (from' l en (ahead l en D) k p) (fun q z => loop l en (from' l en (ahead l en D) k) (5 - k) F z q) = loop l en (from' l en (ahead l en D) k) (5 - k) F' (Sy.exB (d + 1) x) (p + (Sy.exT (d + 1) x).length) := by
    intro k hk k2 hMk D p F hD hL hA hf hF
    by_cases hup : 6 - (k : Int) ≤ Sy.levelOf x.kind
    · exact ⟨F, by omega, then_ok (hMk D p hD hup hA hf)⟩
    · have hlev : 0 < Sy.lev x.kind := by
        by_cases hn : 0 < Sy.lev x.kind
        · exact hn
        · rw [levelOf_not hn] at hup; omega
      rw [levelOf_bin hlev] at hL hup
      have hLv : Sy.lev x.kind = 5 - (k : Int) := by omega
      obtain ⟨a, b, hab⟩ := Sy.two_kids h3 (.inl hlev)
      obtain ⟨A, B, hAe, hBe, hlen, hA1, w, hB1⟩ := bin_at (en := en) hlev hab hA
      have hne3 : Sy.lev x.kind ≠ 3 := by omega
      rw [if_neg hne3] at hAe
      rw [hlen] at hf ⊢
      have hfB : Fol l en (p + A.length + 1 + B.length) (6 - k) := by rw [show p + A.length + 1 + B.length = p + (A.length + 1 + B.length) by omega]; exact hf
      have hsg := Sy.sign_lev hlev
      have hfA : Fol l en (p + A.length) (6 - k) := wd_fol w (by rw [hsg]; simp only; omega) (sign_ne hlev)
      -- the first kid
      have hfirst : ∃ F1, l.length < p + A.length + F1 ∧ andThen (from' l en (ahead l en D) k p) (fun q z => loop l en (from' l en (ahead l en D) k) (5 - k) F z q) = loop l en (from' l en (ahead l en D) k) (5 - k) F1 (Sy.exB d a) (p + A.length) := by
        by_cases hpl : Sy.lev x.kind ≤ Sy.levelOf a.kind
        · have e : A = Sy.exT d a := by rw [hAe]; unfold Sy.brT; rw [if_pos hpl]
          rw [e] at hA1 hfA ⊢
          exact (ih a (h4 a (by rw [hab]; simp))).2 D k p F (by omega) hk k2 (by omega) hA1 hfA hF
        · have e : A = [⟨#[40]⟩] ++ Sy.exT d a ++ [⟨#[41]⟩] := by rw [hAe]; unfold Sy.brT; rw [if_neg hpl]
          have el : A.length = (Sy.exT d a).length + 2 := by rw [e]; simp
          rw [e] at hA1
          have hah := br_ahead (D := D) (hM a (by rw [hab]; simp)) (by omega) hA1
          have hq : p + (Sy.exT d a).length + 2 = p + A.length := by omega
          rw [hq] at hah
          exact ⟨F, by omega, then_ok (from_pass hah k (by omega) hfA.1)⟩
      obtain ⟨F1, hF1, hfirst⟩ := hfirst
      obtain ⟨F2, rfl⟩ : ∃ F2, F1 = F2 + 1 := ⟨F1 - 1, by have := w.lt; omega⟩
      refine ⟨F2, by omega, ?_⟩
      rw [hfirst, loop, w.text, hsg]
      rw [if_neg (by simp only; omega)]
      have hbr : from' l en (ahead l en D) k (p + A.length + 1) = .ok (p + A.length + 1 + B.length, Sy.exB d b) := by
        rw [hBe] at hB1 hfB ⊢
        exact br_from (hM b (by rw [hab]; simp)) (by omega) (by omega) (by omega) hB1 hfB
      refine (then_ok hbr).trans ?_
      rw [if_neg (by omega), bare_two hlev hab, show p + A.length + 1 + B.length = p + (A.length + 1 + B.length) by omega]
  -- every level
  have hall : ∀ k : Nat, k ≤ 5 → ∀ D p : Nat, 2 * (d + 1) ≤ D → 6 - (k : Int) ≤ Sy.levelOf x.kind → At l p (Sy.exT (d + 1) x) → Fol l en (p + (Sy.exT (d + 1) x).length) (6 - k) → from' l en (ahead l en D) k p = .ok (p + (Sy.exT (d + 1) x).length, Sy.exB (d + 1) x) := by
    intro k
    induction k with
    | zero =>
      intro _ D p hD hL hA hf
      have hn : ¬ 0 < Sy.lev x.kind := fun h => by have := (Sy.lev_bin h).2; rw [levelOf_bin h] at hL; omega
      exact ahead_ok hx hn hM hD hA hf.2
    | succ k ihk =>
      intro hk D p hD hL hA hf
      rw [from']
      by_cases hk2 : k = 2
      · subst hk2
        by_cases h3' : Sy.lev x.kind = 3
        · -- once
          have hlev : 0 < Sy.lev x.kind := by omega
          obtain ⟨a, b, hab⟩ := Sy.two_kids h3 (.inl hlev)
          obtain ⟨A, B, hAe, hBe, hlen, hA1, w, hB1⟩ := bin_at (en := en) hlev hab hA
          rw [if_pos h3'] at hAe
          rw [h3'] at hBe
          rw [hlen] at hf ⊢
          have hsg := Sy.sign_lev hlev
          have hfA : Fol l en (p + A.length) (6 - (2 : Nat)) := wd_fol w (by rw [hsg]; simp only; omega) (sign_ne hlev)
          have hfB : Fol l en (p + A.length + 1 + B.length) (6 - (2 : Nat)) := by rw [show p + A.length + 1 + B.length = p + (A.length + 1 + B.length) by omega]; exact hf.mono (by omega)
          have hA2 : from' l en (ahead l en D) 2 p = .ok (p + A.length, Sy.exB d a) := by
            rw [hAe] at hA1 hfA ⊢
            exact br_from (hM a (by rw [hab]; simp)) (by omega) (by omega) (by omega) hA1 hfA
          have hB2 : from' l en (ahead l en D) 2 (p + A.length + 1) = .ok (p + A.length + 1 + B.length, Sy.exB d b) := by
            rw [hBe] at hB1 hfB ⊢
            exact br_from (hM b (by rw [hab]; simp)) (by omega) (by omega) (by omega) hB1 hfB
          refine (then_ok hA2).trans ?_
          rw [loop, w.text, hsg, if_neg (by simp only; omega)]
          refine (then_ok hB2).trans ?_
          rw [if_pos (by omega), bare_two hlev hab, show p + A.length + 1 + B.length = p + (A.length + 1 + B.length) by omega]
        · have hup : 6 - ((2 : Nat) : Int) ≤ Sy.levelOf x.kind := by
            by_cases hn : 0 < Sy.lev x.kind
            · rw [levelOf_bin hn] at hL ⊢; omega
            · rw [levelOf_not hn]; omega
          refine (then_ok (ihk (by omega) D p hD hup hA (hf.mono (by omega)))).trans ?_
          exact loop_stop (by have := hf.1; omega) _
      · obtain ⟨F', hF', he⟩ := hC k (by omega) hk2 (ihk (by omega)) D p (l.length + 1) hD (by omega) hA (hf.mono (by omega)) (by omega)
        rw [he]
        exact loop_stop (by have := hf.1; omega) _
  exact ⟨fun D k p hD hk hL hA hf => hall k hk D p hD hL hA hf, fun D k p F hD hk k2 hL hA hf hF => hC k hk k2 (hall k (by omega)) D p F hD hL hA hf hF⟩

theorem both_all : ∀ (d : Nat) (x : Sy.Ex), Sy.ExOk d x → Mx l en d x ∧ Cx l en d x
  | 0, _, h => h.elim
  | d + 1, x, h => both_step (both_all d) x h

/-- AN EXPRESSION THAT IS WRITTEN IS READ. -/
theorem ex_ok {d D p : Nat} {x : Sy.Ex} (hx : Sy.ExOk d x) (hD : 2 * d + 1 ≤ D) (h : At l p (Sy.exT d x)) (hf : Fol l en (p + (Sy.exT d x).length) 1) : ex l en D p = .ok (p + (Sy.exT d x).length, Sy.exB d x) := kid_one (both_all d x hx).1 hD p h hf

end
end Rp
end Go.Proofs.YtlnikpcoejpknaaGreatDoor

