/- What is written is read: statements. -/
import Derived.Test.YtlnikpcoejpknaaGreatDoorM20
import Derived.Test.YtlnikpcoejpknaaGreatDoorM15
import Derived.Test.YtlnikpcoejpknaaGreatDoorM18
namespace Go.Proofs.YtlnikpcoejpknaaGreatDoor
open Go.RowKit
namespace Sy

/-- What a look that found nothing says of a statement. -/
def StRd : Nat → St → Prop
  | 0, _ => False
  | d + 1, s => 1 ≤ s.kind ∧ s.kind ≤ 9 ∧ ((s.kind = 1 ∨ s.kind = 2 ∨ s.kind = 7) → nm s.name = true) ∧ (s.kind ≠ 6 → ExOk d s.x) ∧ ((s.kind = 3 ∨ s.kind = 4) → s.body.length ≤ 50 ∧ ∀ t ∈ s.body, StRd d t) ∧ (s.kind = 3 → s.els.length ≤ 50 ∧ ∀ t ∈ s.els, StRd d t)

theorem bodyOf_ok {f : St → Nat → Except Int Nat} {P : St → Prop} (hf : ∀ s n m, f s n = .ok m → P s) {l : List St} {n m : Nat} (h : bodyOf f l n = .ok m) : l.length ≤ 50 ∧ ∀ t ∈ l, P t := by
  unfold bodyOf at h
  split at h
  · simp at h
  · exact ⟨by omega, fun t ht => by obtain ⟨i, j, hij⟩ := runs_mem h t ht; exact hf t i j hij⟩
theorem stRd_of : ∀ (d : Nat) (s : St) (n m : Nat), stW d s n = .ok m → StRd d s
  | 0, _, _, _, h => by simp [stW] at h
  | d + 1, s, n, m, h => by
    rw [stW] at h
    split at h
    · simp at h
    rename_i h0
    have hz := nodeW_zero (by simpa using h0 : nodeW s.kind 9 (d + 1) n = 0)
    split at h
    · simp at h
    rename_i h1
    have hn : (s.kind = 1 ∨ s.kind = 2 ∨ s.kind = 7) → nm s.name = true := fun hk => by
      cases hn : nm s.name with
      | true => rfl
      | false => exact absurd ⟨hk, hn⟩ h1
    split at h
    · rename_i h6
      exact ⟨hz.2.1, hz.2.2.1, hn, fun h => absurd h6 h, fun h => by omega, fun h => by omega⟩
    · rename_i h6
      cases he : exW d s.x (n + 1) with
      | error e => rw [he] at h; simp at h
      | ok j =>
        rw [he] at h
        have hx := exOk_of d s.x (n + 1) j he
        simp only [stTail] at h
        split at h
        · rename_i h34
          cases hb : bodyOf (stW d) s.body j with
          | error e => rw [hb] at h; simp at h
          | ok j2 =>
            rw [hb] at h
            have hbd := bodyOf_ok (stRd_of d) hb
            refine ⟨hz.2.1, hz.2.2.1, hn, fun _ => hx, fun _ => hbd, fun h3 => ?_⟩
            simp only [if_pos h3] at h
            exact bodyOf_ok (stRd_of d) h
        · rename_i h34
          exact ⟨hz.2.1, hz.2.2.1, hn, fun _ => hx, fun h => absurd h h34, fun h => absurd (.inl h) h34⟩

/-- A statement with what its kind has alone. -/
def stB : Nat → St → St
  | 0, s => s
  | d + 1, s => ⟨s.kind, if s.kind = 1 ∨ s.kind = 2 ∨ s.kind = 7 then s.name else ⟨#[]⟩, if s.kind = 6 then ⟨0, 0, ⟨#[]⟩, []⟩ else exB d s.x, if s.kind = 3 ∨ s.kind = 4 then s.body.map (stB d) else [], if s.kind = 3 then s.els.map (stB d) else []⟩

theorem stT_1 {d : Nat} {s : St} (h : s.kind = 1) : stT (d + 1) s = ⟨#[108, 101, 116]⟩ :: s.name :: ⟨#[61]⟩ :: (exT d s.x ++ [⟨#[59]⟩]) := by
  rw [stT, if_pos h]; rfl
theorem stT_2 {d : Nat} {s : St} (h : s.kind = 2) : stT (d + 1) s = s.name :: ⟨#[61]⟩ :: (exT d s.x ++ [⟨#[59]⟩]) := by
  rw [stT, if_neg (by omega), if_pos h]; rfl
theorem stT_3 {d : Nat} {s : St} (h : s.kind = 3) : stT (d + 1) s = ⟨#[105, 102]⟩ :: (exT d s.x ++ (bodyT (stT d) s.body ++ (if s.els.length = 0 then [] else ⟨#[101, 108, 115, 101]⟩ :: bodyT (stT d) s.els))) := by
  rw [stT, if_neg (by omega), if_neg (by omega), if_pos h, List.append_assoc, List.append_assoc]; rfl
theorem stT_4 {d : Nat} {s : St} (h : s.kind = 4) : stT (d + 1) s = ⟨#[119, 104, 105, 108, 101]⟩ :: (exT d s.x ++ bodyT (stT d) s.body) := by
  rw [stT, if_neg (by omega), if_neg (by omega), if_neg (by omega), if_pos h, List.append_assoc]; rfl
theorem stT_5 {d : Nat} {s : St} (h : s.kind = 5) : stT (d + 1) s = ⟨#[114, 101, 116, 117, 114, 110]⟩ :: (exT d s.x ++ [⟨#[59]⟩]) := by
  rw [stT, if_neg (by omega), if_neg (by omega), if_neg (by omega), if_neg (by omega), if_pos h, List.append_assoc]; rfl
theorem stT_6 {d : Nat} {s : St} (h : s.kind = 6) : stT (d + 1) s = [⟨#[115, 116, 111, 112]⟩, ⟨#[59]⟩] := by
  rw [stT, if_neg (by omega), if_neg (by omega), if_neg (by omega), if_neg (by omega), if_neg (by omega), if_pos h]
theorem stT_7 {d : Nat} {s : St} (h : s.kind = 7) : stT (d + 1) s = ⟨#[115, 101, 110, 100]⟩ :: s.name :: (exT d s.x ++ [⟨#[59]⟩]) := by
  rw [stT, if_neg (by omega), if_neg (by omega), if_neg (by omega), if_neg (by omega), if_neg (by omega), if_neg (by omega), if_pos h]; rfl
theorem stT_8 {d : Nat} {s : St} (h : s.kind = 8) : stT (d + 1) s = ⟨#[111, 117, 116]⟩ :: (exT d s.x ++ [⟨#[59]⟩]) := by
  rw [stT, if_neg (by omega), if_neg (by omega), if_neg (by omega), if_neg (by omega), if_neg (by omega), if_neg (by omega), if_neg (by omega), if_pos h, List.append_assoc]; rfl
theorem stT_9 {d : Nat} {s : St} (h : s.kind = 9) : stT (d + 1) s = ⟨#[100, 111]⟩ :: (exT d s.x ++ [⟨#[59]⟩]) := by
  rw [stT, if_neg (by omega), if_neg (by omega), if_neg (by omega), if_neg (by omega), if_neg (by omega), if_neg (by omega), if_neg (by omega), if_neg (by omega), List.append_assoc]; rfl

/-- How a statement's text begins. -/
theorem st_first {d : Nat} {s : St} (h : StRd d s) : ∃ w r, stT d s = w :: r ∧ w ≠ ⟨#[125]⟩ ∧ w ≠ ⟨#[101, 108, 115, 101]⟩ := by
  cases d with
  | zero => exact h.elim
  | succ d =>
    obtain ⟨h1, h2, h3, _⟩ := h
    have hk : s.kind = 1 ∨ s.kind = 2 ∨ s.kind = 3 ∨ s.kind = 4 ∨ s.kind = 5 ∨ s.kind = 6 ∨ s.kind = 7 ∨ s.kind = 8 ∨ s.kind = 9 := by omega
    rcases hk with hk | hk | hk | hk | hk | hk | hk | hk | hk
    · rw [stT_1 hk]; exact ⟨_, _, rfl, by decide, by decide⟩
    · rw [stT_2 hk]; exact ⟨_, _, rfl, nm_ne (h3 (by omega)) (by decide +kernel), nm_ne (h3 (by omega)) (by decide +kernel)⟩
    · rw [stT_3 hk]; exact ⟨_, _, rfl, by decide, by decide⟩
    · rw [stT_4 hk]; exact ⟨_, _, rfl, by decide, by decide⟩
    · rw [stT_5 hk]; exact ⟨_, _, rfl, by decide, by decide⟩
    · rw [stT_6 hk]; exact ⟨_, _, rfl, by decide, by decide⟩
    · rw [stT_7 hk]; exact ⟨_, _, rfl, by decide, by decide⟩
    · rw [stT_8 hk]; exact ⟨_, _, rfl, by decide, by decide⟩
    · rw [stT_9 hk]; exact ⟨_, _, rfl, by decide, by decide⟩

end Sy

namespace Rp
section
variable {l : List Lx.Tk} {en : Nat}

/-- Which way the reader goes at a statement. -/
theorem stat_word {D p : Nat} {bd : Nat → Res (List Sy.St)} {w : ByteArray} (h : Wd l en p w) : stat l en D bd p =
    if w = ⟨#[108, 101, 116]⟩ then setting l en D 1 (p + 1) else if w = ⟨#[105, 102]⟩ then choice l en D bd (p + 1) else if w = ⟨#[119, 104, 105, 108, 101]⟩ then looping l en D bd (p + 1)
    else if w = ⟨#[115, 116, 111, 112]⟩ then stopping l en (p + 1) else if w = ⟨#[115, 101, 110, 100]⟩ then sending l en D (p + 1) else if w = ⟨#[114, 101, 116, 117, 114, 110]⟩ then saying l en D 5 (p + 1)
    else if w = ⟨#[111, 117, 116]⟩ then saying l en D 8 (p + 1) else if w = ⟨#[100, 111]⟩ then saying l en D 9 (p + 1) else setting l en D 2 p := by
  unfold stat
  simp only [h.tk, decide_eq_true_eq]

theorem setting_ok {d D p : Nat} {kind : Int} {n : ByteArray} {x : Sy.Ex} (hn : Sy.nm n = true) (hx : Sy.ExOk d x) (hD : 2 * d + 1 ≤ D) (h : At l p (n :: ⟨#[61]⟩ :: (Sy.exT d x ++ [⟨#[59]⟩]))) : setting l en D kind p = .ok (p + (Sy.exT d x).length + 3, ⟨kind, n, Sy.exB d x, [], []⟩) := by
  obtain ⟨w1, h⟩ := at_cons (en := en) h
  obtain ⟨w2, h⟩ := at_cons (en := en) h
  obtain ⟨h1, h⟩ := at_app h
  obtain ⟨w3, _⟩ := at_cons (en := en) h
  unfold setting
  refine (then_ok (wd_name w1 hn (Sy.nm_word hn).2)).trans ?_
  refine (then_ok (wd_want w2)).trans ?_
  refine (then_ok (ex_ok hx hD h1 (wd_fol w3 (by decide) (by decide)))).trans ?_
  refine (then_ok (wd_want w3)).trans ?_
  rw [show p + 1 + 1 + (Sy.exT d x).length + 1 = p + (Sy.exT d x).length + 3 by omega]
theorem saying_ok {d D p : Nat} {kind : Int} {x : Sy.Ex} (hx : Sy.ExOk d x) (hD : 2 * d + 1 ≤ D) (h : At l p (Sy.exT d x ++ [⟨#[59]⟩])) : saying l en D kind p = .ok (p + (Sy.exT d x).length + 1, ⟨kind, ⟨#[]⟩, Sy.exB d x, [], []⟩) := by
  obtain ⟨h1, h⟩ := at_app h
  obtain ⟨w3, _⟩ := at_cons (en := en) h
  unfold saying
  refine (then_ok (ex_ok hx hD h1 (wd_fol w3 (by decide) (by decide)))).trans ?_
  exact (then_ok (wd_want w3)).trans rfl

/-- A body that is written is read. -/
def BdOk (l : List Lx.Tk) (en d D : Nat) : Prop := ∀ (ls : List Sy.St) (p : Nat), ls.length ≤ 50 → (∀ s ∈ ls, Sy.StRd d s) → At l p (Sy.bodyT (Sy.stT d) ls) → body l en D p = .ok (p + (Sy.bodyT (Sy.stT d) ls).length, ls.map (Sy.stB d))

theorem body_beg {f : Sy.St → List ByteArray} {ls : List Sy.St} : Sy.bodyT f ls = ⟨#[123]⟩ :: (ls.flatMap f ++ [⟨#[125]⟩]) := by simp [Sy.bodyT]

theorem stat_ok {d D p : Nat} {s : Sy.St} (hs : Sy.StRd (d + 1) s) (hD : 2 * d + 1 ≤ D) (hB : BdOk l en d D) (h : At l p (Sy.stT (d + 1) s)) (hf : tk l (p + (Sy.stT (d + 1) s).length) ⟨#[101, 108, 115, 101]⟩ = false) :
    stat l en D (body l en D) p = .ok (p + (Sy.stT (d + 1) s).length, Sy.stB (d + 1) s) := by
  obtain ⟨h1, h2, h3, h4, h5, h6⟩ := hs
  have hk : s.kind = 1 ∨ s.kind = 2 ∨ s.kind = 3 ∨ s.kind = 4 ∨ s.kind = 5 ∨ s.kind = 6 ∨ s.kind = 7 ∨ s.kind = 8 ∨ s.kind = 9 := by omega
  rcases hk with hk | hk | hk | hk | hk | hk | hk | hk | hk
  · rw [Sy.stT_1 hk] at h ⊢
    obtain ⟨w1, h⟩ := at_cons (en := en) h
    rw [stat_word w1, if_pos rfl, setting_ok (h3 (by omega)) (h4 (by omega)) hD h, Sy.stB]
    simp [hk]
    omega
  · rw [Sy.stT_2 hk] at h ⊢
    have hn := h3 (by omega)
    obtain ⟨w1, _⟩ := at_cons (en := en) h
    have e : ∀ v, Sy.nm v = false → s.name ≠ v := fun v hv => Sy.nm_ne hn hv
    rw [stat_word w1, if_neg (e _ (by decide +kernel)), if_neg (e _ (by decide +kernel)), if_neg (e _ (by decide +kernel)), if_neg (e _ (by decide +kernel)), if_neg (e _ (by decide +kernel)), if_neg (e _ (by decide +kernel)), if_neg (e _ (by decide +kernel)), if_neg (e _ (by decide +kernel)), setting_ok hn (h4 (by omega)) hD h, Sy.stB]
    simp [hk]
    omega
  · rw [Sy.stT_3 hk] at h hf ⊢
    obtain ⟨w1, h⟩ := at_cons (en := en) h
    obtain ⟨a1, h⟩ := at_app h
    obtain ⟨a2, h⟩ := at_app h
    have hb := h5 (.inl hk)
    have he := h6 hk
    have a3 := a2
    rw [body_beg] at a3
    obtain ⟨w2, _⟩ := at_cons (en := en) a3
    rw [stat_word w1, if_neg (by decide), if_pos rfl]
    unfold choice
    refine (then_ok (ex_ok (h4 (by omega)) hD a1 (wd_fol w2 (by decide) (by decide)))).trans ?_
    refine (then_ok (hB s.body _ hb.1 hb.2 a2)).trans ?_
    by_cases hel : s.els.length = 0
    · have hnil : s.els = [] := List.eq_nil_of_length_eq_zero hel
      rw [if_pos hel] at hf ⊢
      have hq : p + (⟨#[105, 102]⟩ :: (Sy.exT d s.x ++ (Sy.bodyT (Sy.stT d) s.body ++ []))).length = p + 1 + (Sy.exT d s.x).length + (Sy.bodyT (Sy.stT d) s.body).length := by simp; omega
      rw [hq] at hf ⊢
      rw [hf, if_neg (by decide), Sy.stB]
      simp [hk, hnil]
    · rw [if_neg hel] at h ⊢
      obtain ⟨w3, h⟩ := at_cons (en := en) h
      rw [w3.tk, if_pos (by decide)]
      refine (then_ok (hB s.els _ he.1 he.2 h)).trans ?_
      rw [Sy.stB]
      simp [hk]
      omega
  · rw [Sy.stT_4 hk] at h ⊢
    obtain ⟨w1, h⟩ := at_cons (en := en) h
    obtain ⟨a1, a2⟩ := at_app h
    have hb := h5 (.inr hk)
    have a3 := a2
    rw [body_beg] at a3
    obtain ⟨w2, _⟩ := at_cons (en := en) a3
    rw [stat_word w1, if_neg (by decide), if_neg (by decide), if_pos rfl]
    unfold looping
    refine (then_ok (ex_ok (h4 (by omega)) hD a1 (wd_fol w2 (by decide) (by decide)))).trans ?_
    refine (then_ok (hB s.body _ hb.1 hb.2 a2)).trans ?_
    rw [Sy.stB]
    simp [hk]
    omega
  · rw [Sy.stT_5 hk] at h ⊢
    obtain ⟨w1, h⟩ := at_cons (en := en) h
    rw [stat_word w1, if_neg (by decide), if_neg (by decide), if_neg (by decide), if_neg (by decide), if_neg (by decide), if_pos rfl, saying_ok (h4 (by omega)) hD h, Sy.stB]
    simp [hk]
    omega
  · rw [Sy.stT_6 hk] at h ⊢
    obtain ⟨w1, h⟩ := at_cons (en := en) h
    obtain ⟨w2, _⟩ := at_cons (en := en) h
    rw [stat_word w1, if_neg (by decide), if_neg (by decide), if_neg (by decide), if_pos rfl]
    unfold stopping
    refine (then_ok (wd_want w2)).trans ?_
    rw [Sy.stB]
    simp [hk]
  · rw [Sy.stT_7 hk] at h ⊢
    have hn := h3 (by omega)
    obtain ⟨w1, h⟩ := at_cons (en := en) h
    obtain ⟨w2, h⟩ := at_cons (en := en) h
    obtain ⟨a1, h⟩ := at_app h
    obtain ⟨w3, _⟩ := at_cons (en := en) h
    rw [stat_word w1, if_neg (by decide), if_neg (by decide), if_neg (by decide), if_neg (by decide), if_pos rfl]
    unfold sending
    refine (then_ok (wd_name w2 hn (Sy.nm_word hn).2)).trans ?_
    refine (then_ok (ex_ok (h4 (by omega)) hD a1 (wd_fol w3 (by decide) (by decide)))).trans ?_
    refine (then_ok (wd_want w3)).trans ?_
    rw [Sy.stB]
    simp [hk]
    omega
  · rw [Sy.stT_8 hk] at h ⊢
    obtain ⟨w1, h⟩ := at_cons (en := en) h
    rw [stat_word w1, if_neg (by decide), if_neg (by decide), if_neg (by decide), if_neg (by decide), if_neg (by decide), if_neg (by decide), if_pos rfl, saying_ok (h4 (by omega)) hD h, Sy.stB]
    simp [hk]
    omega
  · rw [Sy.stT_9 hk] at h ⊢
    obtain ⟨w1, h⟩ := at_cons (en := en) h
    rw [stat_word w1, if_neg (by decide), if_neg (by decide), if_neg (by decide), if_neg (by decide), if_neg (by decide), if_neg (by decide), if_neg (by decide), if_pos rfl, saying_ok (h4 (by omega)) hD h, Sy.stB]
    simp [hk]
    omega

theorem stats_ok {d : Nat} {st : Nat → Res Sy.St} (hst : ∀ s p, Sy.StRd d s → At l p (Sy.stT d s) → tk l (p + (Sy.stT d s).length) ⟨#[101, 108, 115, 101]⟩ = false → st p = .ok (p + (Sy.stT d s).length, Sy.stB d s)) : ∀ (ls : List Sy.St) (F : Nat) (out : List Sy.St) (p : Nat), (∀ s ∈ ls, Sy.StRd d s) → out.length + ls.length ≤ 50 → At l p (ls.flatMap (Sy.stT d) ++ [⟨#[125]⟩]) → ls.length < F → stats l en st F out p = .ok (p + (ls.flatMap (Sy.stT d)).length + 1, out ++ ls.map (Sy.stB d))
  | _, 0, _, _, _, _, _, hF => by omega
  | [], F + 1, out, p, _, _, h, _ => by
    obtain ⟨w1, _⟩ := at_cons (en := en) (show At l p (⟨#[125]⟩ :: []) from h)
    rw [stats, w1.tk, if_pos (by decide)]
    simp
  | s :: ls, F + 1, out, p, hs, hn, h, hF => by
    have hso := hs s (by simp)
    rw [List.flatMap_cons, List.append_assoc] at h
    obtain ⟨a1, a2⟩ := at_app h
    obtain ⟨w, r, hw, hne, _⟩ := Sy.st_first hso
    have a3 := a1
    rw [hw] at a3
    obtain ⟨w1, _⟩ := at_cons (en := en) a3
    have hels : tk l (p + (Sy.stT d s).length) ⟨#[101, 108, 115, 101]⟩ = false := by
      cases ls with
      | nil =>
        obtain ⟨w2, _⟩ := at_cons (en := en) (show At l (p + (Sy.stT d s).length) (⟨#[125]⟩ :: []) from a2)
        rw [w2.tk]; decide
      | cons s2 ls =>
        obtain ⟨v, r2, hv, _, hne2⟩ := Sy.st_first (hs s2 (by simp))
        rw [List.flatMap_cons, hv, List.cons_append, List.cons_append] at a2
        obtain ⟨w2, _⟩ := at_cons (en := en) a2
        rw [w2.tk]; simpa using hne2
    rw [stats, w1.tk, if_neg (by simpa using hne)]
    have hlim : limitL bgSt (out.length : Nat) 50 (pk l p en) p = .ok p := by unfold limitL; rw [if_neg (by simp at hn; omega)]
    rw [hlim]
    refine (then_ok (hst s p hso a1 hels)).trans ?_
    rw [stats_ok hst ls F (out ++ [Sy.stB d s]) _ (fun x hx => hs x (by simp [hx])) (by simp at hn ⊢; omega) a2 (by simp at hF; omega)]
    simp
    omega

theorem st_len {d : Nat} : ∀ {ls : List Sy.St}, (∀ s ∈ ls, Sy.StRd d s) → ls.length ≤ (ls.flatMap (Sy.stT d)).length
  | [], _ => by simp
  | s :: ls, h => by
    obtain ⟨w, r, hw, _⟩ := Sy.st_first (h s (by simp))
    have := st_len (fun x hx => h x (List.mem_cons_of_mem _ hx) : ∀ x ∈ ls, Sy.StRd d x)
    rw [List.flatMap_cons, hw, List.length_append, List.length_cons, List.length_cons]
    omega

theorem body_ok' : ∀ (d D : Nat), 3 * d + 1 ≤ D → BdOk l en d D
  | d, 0, hD => by omega
  | d, D + 1, hD => by
    intro ls p hn hs h
    rw [body_beg] at h ⊢
    obtain ⟨w1, h⟩ := at_cons (en := en) h
    rw [body]
    refine (then_ok (wd_want w1)).trans ?_
    have hF : ls.length < l.length + 1 := by
      have h1 := st_len hs
      obtain ⟨_, h2⟩ := at_app h
      obtain ⟨w2, _⟩ := at_cons (en := en) h2
      have := w2.lt
      omega
    have hst : ∀ s p, Sy.StRd d s → At l p (Sy.stT d s) → tk l (p + (Sy.stT d s).length) ⟨#[101, 108, 115, 101]⟩ = false → stat l en D (body l en D) p = .ok (p + (Sy.stT d s).length, Sy.stB d s) := by
      intro s p hs ha hf
      cases d with
      | zero => exact hs.elim
      | succ d => exact stat_ok hs (by omega) (body_ok' d D (by omega)) ha hf
    rw [stats_ok hst ls _ [] (p + 1) hs (by simpa using hn) h hF]
    simp
    omega

end
end Rp
end Go.Proofs.YtlnikpcoejpknaaGreatDoor

/- Statements in new memory. -/
namespace Go.Proofs.YtlnikpcoejpknaaGreatDoor
open Go.RowKit

/-- Statements lie at a, in blocks of which Q holds, each as P says. -/
def RowQ (Q : Nat → Prop) (w : World) (P : Sy.St → Option Addr → Option Addr → Option Addr → Prop) (l : List Sy.St) (a : Option Addr) : Prop :=
  ∀ i s, l[i]? = some s → ∃ b off xa xc ba bc ea ec, a = some ⟨b, off, none⟩ ∧ Q b ∧
      w.cell? ⟨b, off + i * 8, none⟩ = some (.int .i64 s.kind) ∧ w.cell? ⟨b, off + i * 8 + 1, none⟩ = some (.string s.name) ∧
      w.cell? ⟨b, off + i * 8 + 2, none⟩ = some (.int .i64 s.x.kind) ∧ w.cell? ⟨b, off + i * 8 + 3, none⟩ = some (.int .i64 s.x.n) ∧ w.cell? ⟨b, off + i * 8 + 4, none⟩ = some (.string s.x.name) ∧
      w.cell? ⟨b, off + i * 8 + 5, none⟩ = some (.slice xa s.x.kids.length xc) ∧ w.cell? ⟨b, off + i * 8 + 6, none⟩ = some (.slice ba s.body.length bc) ∧
      w.cell? ⟨b, off + i * 8 + 7, none⟩ = some (.slice ea s.els.length ec) ∧ P s xa ba ea

def StQ (Q : Nat → Prop) (w : World) : Nat → Sy.St → Option Addr → Option Addr → Option Addr → Prop
  | 0, _, _, _, _ => False
  | h + 1, s, xa, ba, ea => s.name.size ≤ 6000 ∧ (∃ hx, ExQ Q w hx s.x xa) ∧ s.body.length ≤ 6000 ∧ s.els.length ≤ 6000 ∧ RowQ Q w (StQ Q w h) s.body ba ∧ RowQ Q w (StQ Q w h) s.els ea

theorem RowQ.keep {Q Q' : Nat → Prop} {w w' : World} (hk : ∀ b, Q b → Q' b ∧ w'.heap[b]? = w.heap[b]?) {P P' : Sy.St → Option Addr → Option Addr → Option Addr → Prop} (hP : ∀ s x b e, P s x b e → P' s x b e) {l : List Sy.St} {a : Option Addr} (h : RowQ Q w P l a) : RowQ Q' w' P' l a := fun i s hi => by
  obtain ⟨b, off, xa, xc, ba, bc, ea, ec, ha, hb, c0, c1, c2, c3, c4, c5, c6, c7, hin⟩ := h i s hi
  have hc : ∀ o, w'.cell? ⟨b, o, none⟩ = w.cell? ⟨b, o, none⟩ := fun o => World.cell?_of_block (a := ⟨b, o, none⟩) (hk b hb).2
  exact ⟨b, off, xa, xc, ba, bc, ea, ec, ha, (hk b hb).1, (hc _).trans c0, (hc _).trans c1, (hc _).trans c2, (hc _).trans c3, (hc _).trans c4, (hc _).trans c5, (hc _).trans c6, (hc _).trans c7, hP _ _ _ _ hin⟩
theorem StQ.keep {Q Q' : Nat → Prop} {w w' : World} (hk : ∀ b, Q b → Q' b ∧ w'.heap[b]? = w.heap[b]?) : ∀ {h : Nat} {s : Sy.St} {xa ba ea : Option Addr}, StQ Q w h s xa ba ea → StQ Q' w' h s xa ba ea
  | 0, _, _, _, _, h => h
  | _ + 1, _, _, _, _, ⟨h1, ⟨hx, h2⟩, h3, h4, h5, h6⟩ => ⟨h1, ⟨hx, h2.keep hk⟩, h3, h4, h5.keep hk (fun _ _ _ _ => StQ.keep hk), h6.keep hk (fun _ _ _ _ => StQ.keep hk)⟩
theorem RowQ.mono {Q : Nat → Prop} {w : World} {P P' : Sy.St → Option Addr → Option Addr → Option Addr → Prop} (hP : ∀ s x b e, P s x b e → P' s x b e) {l : List Sy.St} {a : Option Addr} (h : RowQ Q w P l a) : RowQ Q w P' l a := h.keep (fun _ hb => ⟨hb, rfl⟩) hP
theorem StQ.up {Q : Nat → Prop} {w : World} : ∀ {h h' : Nat} {s : Sy.St} {xa ba ea : Option Addr}, h ≤ h' → StQ Q w h s xa ba ea → StQ Q w h' s xa ba ea
  | 0, _, _, _, _, _, _, hx => hx.elim
  | _ + 1, 0, _, _, _, _, hh, _ => by omega
  | h + 1, h' + 1, _, _, _, _, hh, ⟨h1, h2, h3, h4, h5, h6⟩ => ⟨h1, h2, h3, h4, h5.mono (fun _ _ _ _ => StQ.up (by omega)), h6.mono (fun _ _ _ _ => StQ.up (by omega))⟩
theorem RowQ.toIn {Q : Nat → Prop} {w : World} {B : Nat} (hQ : ∀ b, Q b → b < B) {P P' : Sy.St → Option Addr → Option Addr → Option Addr → Prop} (hP : ∀ s x b e, P s x b e → P' s x b e) {l : List Sy.St} {a : Option Addr} (h : RowQ Q w P l a) : RowIn B w P' l a := fun i s hi => by
  obtain ⟨b, off, xa, xc, ba, bc, ea, ec, ha, hb, r1, r2, r3, r4, r5, r6, r7, r8, hin⟩ := h i s hi
  exact ⟨b, off, xa, xc, ba, bc, ea, ec, ha, hQ b hb, r1, r2, r3, r4, r5, r6, r7, r8, hP _ _ _ _ hin⟩
theorem StQ.toIn {Q : Nat → Prop} {w : World} {B : Nat} (hQ : ∀ b, Q b → b < B) : ∀ {h : Nat} {s : Sy.St} {xa ba ea : Option Addr}, StQ Q w h s xa ba ea → StIn B w h s xa ba ea
  | 0, _, _, _, _, h => h
  | _ + 1, _, _, _, _, ⟨h1, ⟨hx, h2⟩, h3, h4, h5, h6⟩ => ⟨by unfold maxLen; omega, ⟨hx, h2.toIn hQ⟩, by unfold maxLen; omega, by unfold maxLen; omega, h5.toIn hQ (fun _ _ _ _ => StQ.toIn hQ), h6.toIn hQ (fun _ _ _ _ => StQ.toIn hQ)⟩
theorem RowQ.nil (Q : Nat → Prop) (w : World) (P : Sy.St → Option Addr → Option Addr → Option Addr → Prop) (a : Option Addr) : RowQ Q w P [] a := fun i s hi => by simp at hi

/-- A statement as a value. -/
abbrev sttV (s : Sy.St) (xa : Option Addr) (xc : Nat) (ba : Option Addr) (bc : Nat) (ea : Option Addr) (ec : Nat) : Value :=
  .agg #[.int .i64 s.kind, .string s.name, .int .i64 s.x.kind, .int .i64 s.x.n, .string s.x.name, .slice xa s.x.kids.length xc, .slice ba s.body.length bc, .slice ea s.els.length ec]
def StV (w : World) : World → Sy.St → Value → Prop := fun w' s v => ∃ xa xc ba bc ea ec h, v = sttV s xa xc ba bc ea ec ∧ StQ (Mad w w') w' h s xa ba ea
/-- A body as a value. -/
def BdV (w : World) : World → List Sy.St → Value → Prop := fun w' l v => ∃ a c h, v = .slice a l.length c ∧ l.length ≤ 6000 ∧ RowQ (Mad w w') w' (StQ (Mad w w') w' h) l a

abbrev sttO (k : Int) (s : ByteArray) (xk xn : Int) (xs : ByteArray) (xv bv ev : Value) : Obj := .cells #[.int .i64 k, .string s, .int .i64 xk, .int .i64 xn, .string xs, xv, bv, ev] 66 (0, 0)
abbrev ZS : Obj := sttO 0 ⟨#[]⟩ 0 0 ⟨#[]⟩ (.slice none 0 0) (.slice none 0 0) (.slice none 0 0)

theorem st_cells {w : World} {N : Nat} {k xk xn : Int} {s xs : ByteArray} {xv bv ev : Value} (h : w.heap[N]? = some (sttO k s xk xn xs xv bv ev)) :
    (w.cell? ⟨N, 0, none⟩ = some (.int .i64 k) ∧ w.cell? ⟨N, 1, none⟩ = some (.string s) ∧ w.cell? ⟨N, 2, none⟩ = some (.int .i64 xk) ∧ w.cell? ⟨N, 3, none⟩ = some (.int .i64 xn) ∧ w.cell? ⟨N, 4, none⟩ = some (.string xs) ∧ w.cell? ⟨N, 5, none⟩ = some xv ∧ w.cell? ⟨N, 6, none⟩ = some bv ∧ w.cell? ⟨N, 7, none⟩ = some ev) ∧
    w.frozen? ⟨N, 0, none⟩ = false ∧ w.frozen? ⟨N, 1, none⟩ = false ∧ w.frozen? ⟨N, 2, none⟩ = false ∧ w.frozen? ⟨N, 3, none⟩ = false ∧ w.frozen? ⟨N, 4, none⟩ = false ∧ w.frozen? ⟨N, 5, none⟩ = false ∧ w.frozen? ⟨N, 6, none⟩ = false ∧ w.frozen? ⟨N, 7, none⟩ = false := by
  simp [World.cell?, World.frozen?, h]

/-- Eight cells of a block are set. -/
abbrev eight (u : World) (N : Nat) (v0 v1 v2 v3 v4 v5 v6 v7 : Value) : World :=
  (((((((u.setCell ⟨N, 0, none⟩ v0).setCell ⟨N, 1, none⟩ v1).setCell ⟨N, 2, none⟩ v2).setCell ⟨N, 3, none⟩ v3).setCell ⟨N, 4, none⟩ v4).setCell ⟨N, 5, none⟩ v5).setCell ⟨N, 6, none⟩ v6).setCell ⟨N, 7, none⟩ v7
theorem eight_far {u : World} {N k : Nat} {v0 v1 v2 v3 v4 v5 v6 v7 : Value} (hk : k ≠ N) : (eight u N v0 v1 v2 v3 v4 v5 v6 v7).heap[k]? = u.heap[k]? := by
  unfold eight
  rw [Below.heap_setCell _ _ _ _ hk, Below.heap_setCell _ _ _ _ hk, Below.heap_setCell _ _ _ _ hk, Below.heap_setCell _ _ _ _ hk, Below.heap_setCell _ _ _ _ hk, Below.heap_setCell _ _ _ _ hk, Below.heap_setCell _ _ _ _ hk, Below.heap_setCell _ _ _ _ hk]
theorem eight_size {u : World} {N : Nat} {v0 v1 v2 v3 v4 v5 v6 v7 : Value} : (eight u N v0 v1 v2 v3 v4 v5 v6 v7).heap.size = u.heap.size := by simp only [eight, World.setCell_size]

theorem set_os (w : World) (a : Addr) (u : Value) : (w.setCell a u).os = w.os := rfl
theorem set_tape (w : World) (a : Addr) (u : Value) : (w.setCell a u).tape = w.tape := rfl
theorem set_output (w : World) (a : Addr) (u : Value) : (w.setCell a u).output = w.output := rfl
theorem eight_os {u : World} {N : Nat} {v0 v1 v2 v3 v4 v5 v6 v7 : Value} : (eight u N v0 v1 v2 v3 v4 v5 v6 v7).os = u.os := by simp only [eight, set_os]
theorem eight_tape {u : World} {N : Nat} {v0 v1 v2 v3 v4 v5 v6 v7 : Value} : (eight u N v0 v1 v2 v3 v4 v5 v6 v7).tape = u.tape := by simp only [eight, set_tape]
theorem eight_output {u : World} {N : Nat} {v0 v1 v2 v3 v4 v5 v6 v7 : Value} : (eight u N v0 v1 v2 v3 v4 v5 v6 v7).output = u.output := by simp only [eight, set_output]

/-- Four cells of a block, from the second on, are set: a statement's expression. -/
abbrev mid4 (u : World) (S : Nat) (v2 v3 v4 v5 : Value) : World := (((u.setCell ⟨S, 2, none⟩ v2).setCell ⟨S, 3, none⟩ v3).setCell ⟨S, 4, none⟩ v4).setCell ⟨S, 5, none⟩ v5
theorem mid4_far {u : World} {S k : Nat} {v2 v3 v4 v5 : Value} (hk : k ≠ S) : (mid4 u S v2 v3 v4 v5).heap[k]? = u.heap[k]? := by
  unfold mid4
  rw [Below.heap_setCell _ _ _ _ hk, Below.heap_setCell _ _ _ _ hk, Below.heap_setCell _ _ _ _ hk, Below.heap_setCell _ _ _ _ hk]
theorem mid4_os {u : World} {S : Nat} {v2 v3 v4 v5 : Value} : (mid4 u S v2 v3 v4 v5).os = u.os := by simp only [mid4, set_os]
theorem mid4_tape {u : World} {S : Nat} {v2 v3 v4 v5 : Value} : (mid4 u S v2 v3 v4 v5).tape = u.tape := by simp only [mid4, set_tape]
theorem mid4_output {u : World} {S : Nat} {v2 v3 v4 v5 : Value} : (mid4 u S v2 v3 v4 v5).output = u.output := by simp only [mid4, set_output]
theorem mid4_size {u : World} {S : Nat} {v2 v3 v4 v5 : Value} : (mid4 u S v2 v3 v4 v5).heap.size = u.heap.size := by simp only [mid4, World.setCell_size]
theorem mid4_at {u : World} {S : Nat} {k xk xn xk' xn' : Int} {s xs xs' : ByteArray} {xv bv ev xv' : Value} (h : u.heap[S]? = some (sttO k s xk xn xs xv bv ev)) : (mid4 u S (.int .i64 xk') (.int .i64 xn') (.string xs') xv').heap[S]? = some (sttO k s xk' xn' xs' xv' bv ev) := by
  unfold mid4
  simp only [World.setCell, Array.getElem?_modify, if_true, h, Option.map_some]
  rfl
theorem st_set6 {u : World} {S : Nat} {k xk xn : Int} {s xs : ByteArray} {xv bv ev v : Value} (h : u.heap[S]? = some (sttO k s xk xn xs xv bv ev)) : (u.setCell ⟨S, 6, none⟩ v).heap[S]? = some (sttO k s xk xn xs xv v ev) := by
  simp only [World.setCell, Array.getElem?_modify, if_true, h, Option.map_some]
  rfl
theorem grown_farS {w u u' : World} {R : Nat} (h : w.grownBy u (some R)) (hos : u'.os = u.os) (ht : u'.tape = u.tape) (ho : u'.output = u.output) (hs : u'.heap.size = u.heap.size) {N : Nat} (hN : w.heap.size ≤ N) (hf : ∀ k, k ≠ N → u'.heap[k]? = u.heap[k]?) : w.grownBy u' (some R) :=
  ⟨hos.trans h.os, ht.trans h.tape, ho.trans h.output, by rw [hs]; exact h.size, fun k hk hn => (hf k (by omega)).trans (h.block k hk hn)⟩

/-- The reader stands where it stood. -/
theorem Rdy.far {E : Env} {w u u' : World} {p q : Nat} {op op' : Int} (h0 : Rdy E w p op) (G : Good E) (h : Rdy E u q op') (hg : w.grownBy u' (some E.R)) {N : Nat} (hN : w.heap.size ≤ N) (hf : ∀ k, k ≠ N → u'.heap[k]? = u.heap[k]?) : Rdy E u' q op' :=
  h0.grown G hg ((hf E.R (by have := h0.lt; omega)).trans h.rd)

/-- The end of each that answers a statement. -/
theorem st_end {E : Env} (G : Good E) {w u : World} {p q n : Nat} {op : Int} {s : Sy.St} {xa ba ea : Option Addr} {xc bc ec : Nat} {r : Res Sy.St} (h : Rdy E w p op) (hg : w.grownBy u (some E.R)) (hd : Rdy E u q op) (hr : r = .ok (q, s)) (hQ : StQ (fun b => w.heap.size < b ∧ b < u.heap.size) u n s xa ba ea) :
    Ends E op w r (StV w) (.returned (sttV s xa xc ba bc ea ec)) (eight u w.heap.size (.int .i64 s.kind) (.string s.name) (.int .i64 s.x.kind) (.int .i64 s.x.n) (.string s.x.name) (.slice xa s.x.kids.length xc) (.slice ba s.body.length bc) (.slice ea s.els.length ec)) := by
  have hg2 := grown_farS hg (u' := eight u w.heap.size (.int .i64 s.kind) (.string s.name) (.int .i64 s.x.kind) (.int .i64 s.x.n) (.string s.x.name) (.slice xa s.x.kids.length xc) (.slice ba s.body.length bc) (.slice ea s.els.length ec)) eight_os eight_tape eight_output eight_size (Nat.le_refl _) (fun k hk => eight_far hk)
  refine ⟨hg2, ?_⟩
  rw [hr]
  refine ⟨⟨_, rfl, xa, xc, ba, bc, ea, ec, n, rfl, hQ.keep (fun b hb => ⟨⟨by omega, by rw [eight_size]; exact hb.2⟩, eight_far (by omega)⟩)⟩, Rdy.far h G hd hg2 (Nat.le_refl _) (fun k hk => eight_far hk)⟩

/-- An expression's kids, further on. -/
theorem ExQ.on {wa w3 u : World} {N n : Nat} {x : Sy.Ex} {a : Option Addr} (h : ExQ (Mad wa w3) w3 n x a) (hN : N < wa.heap.size) (hs : w3.heap.size ≤ u.heap.size) (hk : ∀ b, wa.heap.size ≤ b → b < w3.heap.size → u.heap[b]? = w3.heap[b]?) : ExQ (fun b => N < b ∧ b < u.heap.size) u n x a :=
  h.keep (fun b hb => ⟨⟨by have := hb.1; omega, by have := hb.2; omega⟩, hk b hb.1 hb.2⟩)
theorem RowQ.on {wa w3 u : World} {N n : Nat} {l : List Sy.St} {a : Option Addr} (h : RowQ (Mad wa w3) w3 (StQ (Mad wa w3) w3 n) l a) (hN : N < wa.heap.size) (hs : w3.heap.size ≤ u.heap.size) (hk : ∀ b, wa.heap.size ≤ b → b < w3.heap.size → u.heap[b]? = w3.heap[b]?) : RowQ (fun b => N < b ∧ b < u.heap.size) u (StQ (fun b => N < b ∧ b < u.heap.size) u n) l a :=
  have h2 : ∀ b, Mad wa w3 b → (N < b ∧ b < u.heap.size) ∧ u.heap[b]? = w3.heap[b]? := fun b hb => ⟨⟨by have := hb.1; omega, by have := hb.2; omega⟩, hk b hb.1 hb.2⟩
  RowQ.keep h2 (fun _ _ _ _ hx => StQ.keep h2 hx) h

end Go.Proofs.YtlnikpcoejpknaaGreatDoor

/- The walks of saying and setting. -/
namespace Go.Proofs.YtlnikpcoejpknaaGreatDoor
open Go.RowKit

def CSaying (E : Env) (d : Nat) : Prop := ∀ (kind : Int) (p : Nat) (r : Res Sy.St) (w : World), Hid (Rdy E w p (200 - (d : Int))) → p ≤ E.l.length → Hid (r = Rp.saying E.l E.en d kind p) →
  Calls Tryz.prog 129 #[.pointer (some ⟨E.R, 0, none⟩), .int .i64 kind] w fun e w' => Ends E (200 - (d : Int)) w r (StV w) e w'
def CSetting (E : Env) (d : Nat) : Prop := ∀ (kind : Int) (p : Nat) (r : Res Sy.St) (w : World), Hid (Rdy E w p (200 - (d : Int))) → p ≤ E.l.length → Hid (r = Rp.setting E.l E.en d kind p) →
  Calls Tryz.prog 126 #[.pointer (some ⟨E.R, 0, none⟩), .int .i64 kind] w fun e w' => Ends E (200 - (d : Int)) w r (StV w) e w'


theorem asz (w : World) (o : Obj) : (w.alloc o).heap.size = w.heap.size + 1 := by simp

theorem StQ.plain {Q : Nat → Prop} {w : World} {n : Nat} {k : Int} {s : ByteArray} {x : Sy.Ex} {xa : Option Addr} (hs : s.size ≤ 6000) (hx : ExQ Q w n x xa) : StQ Q w 1 ⟨k, s, x, [], []⟩ xa none none :=
  ⟨hs, ⟨n, hx⟩, Nat.zero_le _, Nat.zero_le _, RowQ.nil _ _ _ _, RowQ.nil _ _ _ _⟩

set_option maxRecDepth 100000 in
set_option maxHeartbeats 1000000 in
theorem saying_f (E : Env) (G : Good E) (d : Nat) (hX : Hid (CExpr E d)) : CSaying E d := by
  intro kind p r w h hp hr
  have hR := h.out.lt
  obtain ⟨r1, hr1⟩ : ∃ r1, r1 = Rp.ex E.l E.en d p := ⟨_, rfl⟩
  have HR1 := hide2 hr1
  have HE0 : Hid (r = Rp.andThen r1 fun q1 x => Rp.andThen (Rp.want E.l E.en ⟨#[59]⟩ q1) fun q2 _ => .ok (q2, ⟨kind, ⟨#[]⟩, x, [], []⟩)) := by rw [hr.out, hr1]; rfl
  have HA1 : Hid (∀ q x, r1 = .ok (q, x) → q ≤ E.l.length) := fun q x hx => (Rp.ex_adv E.l E.en d p q x hp (by rw [← hr1, hx])).2
  clear hr1
  go_enter Tryz.func129, Tryz.ntmps129
  go_wp2_with fail
  refine (hX.out p r1 _ (h.out.alloc G _) hp HR1).mono ?_
  rintro e w1 ⟨hg1, hf1⟩
  have HG1 : Hid (w.grownBy w1 (some E.R)) := grown_tr (grown_alloc (grown_bel (Below.refl _ w)) _) hg1
  have HZ1 : Hid (w1.heap[w.heap.size]? = some ZS) := kept_on hg1 (by omega) (heap_alloc_new w ZS)
  have hw1 : w.heap.size < w1.heap.size := lt_of_block HZ1.out
  clear hg1
  cases r1 with
  | error er =>
    obtain ⟨e1, e2⟩ := er
    obtain ⟨rfl, hd1⟩ := hf1
    have HD1 := hide2 hd1
    have HRr : Hid (r = .error (e1, e2)) := HE0.out
    clear hd1
    go_wp2
    exact ⟨rfl, HG1.out, by rw [HRr.out]; exact ⟨rfl, HD1.out⟩⟩
  | ok qx =>
    obtain ⟨q1, x⟩ := qx
    obtain ⟨⟨v, rfl, xa, xc, n, rfl, hq⟩, hd1⟩ := hf1
    have HD1 := hide2 hd1
    have HQ := hide2 hq
    have hq1 : q1 ≤ E.l.length := HA1.out q1 x rfl
    obtain ⟨r2, hr2⟩ : ∃ r2, r2 = Rp.want E.l E.en ⟨#[59]⟩ q1 := ⟨_, rfl⟩
    have HR2 := hide2 hr2
    have HE1 : Hid (r = Rp.andThen r2 fun q2 _ => .ok (q2, ⟨kind, ⟨#[]⟩, x, [], []⟩)) := by rw [HE0.out, hr2]; rfl
    clear hr2 hd1 hq
    go_wp2_with fail
    refine (want_f E G q1 _ ⟨#[59]⟩ r2 _ (HD1.out.alloc G _) hq1 HR2).mono ?_
    rintro e w2 ⟨hg2, hf2⟩
    have HG2 : Hid (w.grownBy w2 (some E.R)) := grown_tr (grown_alloc HG1.out _) hg2
    have hs2 := hg2.size
    simp only [asz] at hs2
    have hZ2 : w2.heap[w.heap.size]? = some ZS := kept_on hg2 (by omega) ((Below.heap_alloc _ _ _ hw1).trans HZ1.out)
    have hX2 : w2.heap[w1.heap.size]? = some (sttO kind ⟨#[]⟩ x.kind x.n x.name (.slice xa x.kids.length xc) (.slice none 0 0) (.slice none 0 0)) := kept_on hg2 (by omega) (heap_alloc_new w1 _)
    have HQ2 : Hid (ExQ (fun b => w.heap.size < b ∧ b < w2.heap.size) w2 n x xa) := HQ.out.on (by simp) (by omega) (fun b h1 h2 => by simp only [asz] at h1; exact (hg2.block b (by simp only [asz]; omega) (by simp; omega)).trans (Below.heap_alloc _ _ _ h2))
    clear hg2
    cases r2 with
    | error er =>
      clear hZ2 hX2
      obtain ⟨e1, e2⟩ := er
      obtain ⟨rfl, hd2⟩ := hf2
      have HD2 := hide2 hd2
      have HRr : Hid (r = .error (e1, e2)) := HE1.out
      clear hd2
      go_wp2
      exact ⟨rfl, HG2.out, by rw [HRr.out]; exact ⟨rfl, HD2.out⟩⟩
    | ok qx =>
      obtain ⟨q2, u2⟩ := qx
      obtain ⟨⟨v, rfl, rfl⟩, hd2⟩ := hf2
      have HD2 := hide2 hd2
      have HRr : Hid (r = .ok (q2, ⟨kind, ⟨#[]⟩, x, [], []⟩)) := HE1.out
      obtain ⟨⟨z0, z1, z2, z3, z4, z5, z6, z7⟩, y0, y1, y2, y3, y4, y5, y6, y7⟩ := st_cells hZ2
      obtain ⟨⟨x0, x1, x2, x3, x4, x5, x6, x7⟩, _⟩ := st_cells hX2
      clear hd2 hZ2 hX2
      go_wp2
      refine bodyPost_ret (v := sttV ⟨kind, ⟨#[]⟩, x, [], []⟩ xa xc none 0 none 0) (by simp [results, Tryz.results129, go_sem, z0, z1, z2, z3, z4, z5, z6, z7]) rfl ?_
      exact st_end G h.out HG2.out HD2.out HRr.out (StQ.plain (by decide) HQ2.out)


set_option maxRecDepth 100000 in
set_option maxHeartbeats 1000000 in
theorem setting_f (E : Env) (G : Good E) (d : Nat) (hX : Hid (CExpr E d)) : CSetting E d := by
  intro kind p r w h hp hr
  have hR := h.out.lt
  obtain ⟨r1, hr1⟩ : ∃ r1, r1 = Rp.name E.l E.en p := ⟨_, rfl⟩
  have HR1 := hide2 hr1
  have HE0 : Hid (r = Rp.andThen r1 fun q1 s => Rp.andThen (Rp.want E.l E.en ⟨#[61]⟩ q1) fun q2 _ => Rp.andThen (Rp.ex E.l E.en d q2) fun q3 x => Rp.andThen (Rp.want E.l E.en ⟨#[59]⟩ q3) fun q4 _ => .ok (q4, ⟨kind, s, x, [], []⟩)) := by rw [hr.out, hr1]; rfl
  have HA1 : Hid (∀ q x, r1 = .ok (q, x) → q ≤ E.l.length) := fun q x hx => (Rp.name_adv E.l E.en p q x hp (by rw [← hr1, hx])).2
  clear hr1
  go_enter Tryz.func126, Tryz.ntmps126
  go_wp2_with fail
  refine (name_f E G p _ r1 _ (h.out.alloc G _) hp HR1).mono ?_
  rintro e w1 ⟨hg1, hf1⟩
  have HG1 : Hid (w.grownBy w1 (some E.R)) := grown_tr (grown_alloc (grown_bel (Below.refl _ w)) _) hg1
  have HZ1 : Hid (w1.heap[w.heap.size]? = some ZS) := kept_on hg1 (by omega) (heap_alloc_new w ZS)
  have hw1 : w.heap.size < w1.heap.size := lt_of_block HZ1.out
  clear hg1
  cases r1 with
  | error er =>
    obtain ⟨e1, e2⟩ := er
    obtain ⟨rfl, hd1⟩ := hf1
    have HD1 := hide2 hd1
    have HRr : Hid (r = .error (e1, e2)) := HE0.out
    clear hd1
    go_wp2
    exact ⟨rfl, HG1.out, by rw [HRr.out]; exact ⟨rfl, HD1.out⟩⟩
  | ok qx =>
    obtain ⟨q1, s⟩ := qx
    obtain ⟨⟨v, rfl, rfl, hs⟩, hd1⟩ := hf1
    have HD1 := hide2 hd1
    have hq1 : q1 ≤ E.l.length := HA1.out q1 s rfl
    obtain ⟨r2, hr2⟩ : ∃ r2, r2 = Rp.want E.l E.en ⟨#[61]⟩ q1 := ⟨_, rfl⟩
    have HR2 := hide2 hr2
    have HE1 : Hid (r = Rp.andThen r2 fun q2 _ => Rp.andThen (Rp.ex E.l E.en d q2) fun q3 x => Rp.andThen (Rp.want E.l E.en ⟨#[59]⟩ q3) fun q4 _ => .ok (q4, ⟨kind, s, x, [], []⟩)) := by rw [HE0.out, hr2]; rfl
    have HA2 : Hid (∀ q x, r2 = .ok (q, x) → q ≤ E.l.length) := fun q x hx => (Rp.want_adv E.l E.en _ q1 q x hq1 (by rw [← hr2, hx])).2
    clear hr2 hd1
    go_wp2_with fail
    refine (want_f E G q1 _ ⟨#[61]⟩ r2 _ (HD1.out.alloc G _) hq1 HR2).mono ?_
    rintro e w2 ⟨hg2, hf2⟩
    have HGA : Hid (w.grownBy w2 (some E.R)) := grown_tr (grown_alloc HG1.out _) hg2
    have HG2 := HGA
    have hs2 := hg2.size
    simp only [asz] at hs2
    have HZA : Hid (w2.heap[w.heap.size]? = some ZS) := kept_on hg2 (by omega) ((Below.heap_alloc _ _ _ hw1).trans HZ1.out)
    have HSA : Hid (w2.heap[w1.heap.size]? = some (sttO kind s 0 0 ⟨#[]⟩ (.slice none 0 0) (.slice none 0 0) (.slice none 0 0))) := kept_on hg2 (by omega) (heap_alloc_new w1 _)
    clear hg2
    cases r2 with
    | error er =>
      obtain ⟨e1, e2⟩ := er
      obtain ⟨rfl, hd2⟩ := hf2
      have HD2 := hide2 hd2
      have HRr : Hid (r = .error (e1, e2)) := HE1.out
      clear hd2
      go_wp2
      exact ⟨rfl, HG2.out, by rw [HRr.out]; exact ⟨rfl, HD2.out⟩⟩
    | ok qx =>
      obtain ⟨q2, u2⟩ := qx
      obtain ⟨⟨v, rfl, rfl⟩, hd2⟩ := hf2
      have HDA := hide2 hd2
      have hqa : q2 ≤ E.l.length := HA2.out q2 u2 rfl
      have HEA : Hid (r = Rp.andThen (Rp.ex E.l E.en d q2) fun q3 x => Rp.andThen (Rp.want E.l E.en ⟨#[59]⟩ q3) fun q4 _ => .ok (q4, ⟨kind, s, x, [], []⟩)) := HE1.out
      clear hd2 HE1 HE0
      obtain ⟨r5, hr5⟩ : ∃ r5, r5 = Rp.ex E.l E.en d q2 := ⟨_, rfl⟩
      have HR5 := hide2 hr5
      have HE5 : Hid (r = Rp.andThen r5 fun q3 x => Rp.andThen (Rp.want E.l E.en ⟨#[59]⟩ q3) fun q4 _ => .ok (q4, ⟨kind, s, x, [], []⟩)) := by rw [HEA.out, hr5]; rfl
      have HA5 : Hid (∀ q x, r5 = .ok (q, x) → q ≤ E.l.length) := fun q x hx => (Rp.ex_adv E.l E.en d q2 q x hqa (by rw [← hr5, hx])).2
      clear hr5
      go_wp2_with fail
      refine (hX.out q2 r5 _ HDA hqa HR5).mono ?_
      rintro e w5 ⟨hg5, hf5⟩
      have HG5 : Hid (w.grownBy w5 (some E.R)) := grown_tr HGA.out hg5
      have hs5 := hg5.size
      (try simp only [asz] at hs5)
      have HZ5 : Hid (w5.heap[w.heap.size]? = some ZS) := kept_on hg5 (by omega) HZA.out
      have HS5 : Hid (w5.heap[w1.heap.size]? = some (sttO kind s 0 0 ⟨#[]⟩ (.slice none 0 0) (.slice none 0 0) (.slice none 0 0))) := kept_on hg5 (by omega) HSA.out
      clear hg5
      cases r5 with
      | error er =>
        obtain ⟨e1, e2⟩ := er
        obtain ⟨rfl, hd5⟩ := hf5
        have HD5 := hide2 hd5
        have HRr : Hid (r = .error (e1, e2)) := HE5.out
        clear hd5
        go_wp2
        exact ⟨rfl, HG5.out, by rw [HRr.out]; exact ⟨rfl, HD5.out⟩⟩
      | ok qx =>
        obtain ⟨q5, x⟩ := qx
        obtain ⟨⟨v, rfl, xa, xc, n, rfl, hq⟩, hd5⟩ := hf5
        have HD5 := hide2 hd5
        have HQ := hide2 hq
        have hq5 : q5 ≤ E.l.length := HA5.out q5 x rfl
        obtain ⟨r6, hr6⟩ : ∃ r6, r6 = Rp.want E.l E.en ⟨#[59]⟩ q5 := ⟨_, rfl⟩
        have HR6 := hide2 hr6
        have HE6 : Hid (r = Rp.andThen r6 fun q2 _ => .ok (q2, ⟨kind, s, x, [], []⟩)) := by rw [HE5.out, hr6]; rfl
        have HGM : Hid (w.grownBy (mid4 w5 w1.heap.size (.int .i64 x.kind) (.int .i64 x.n) (.string x.name) (.slice xa x.kids.length xc)) (some E.R)) := grown_farS HG5.out mid4_os mid4_tape mid4_output mid4_size (Nat.le_of_lt hw1) (fun k hk => mid4_far hk)
        have HDM : Hid (Rdy E (mid4 w5 w1.heap.size (.int .i64 x.kind) (.int .i64 x.n) (.string x.name) (.slice xa x.kids.length xc)) q5 (200 - (d : Int))) := Rdy.far h.out G HD5.out HGM.out (Nat.le_of_lt hw1) (fun k hk => mid4_far hk)
        obtain ⟨⟨x0, x1, x2, x3, x4, x5, x6, x7⟩, f0, f1, f2, f3, f4, f5, f6, f7⟩ := st_cells HS5.out
        clear hr6 hd5 hq
        go_wp2_with fail
        refine (want_f E G q5 _ ⟨#[59]⟩ r6 _ HDM hq5 HR6).mono ?_
        rintro e w6 ⟨hg6, hf6⟩
        have HG6 : Hid (w.grownBy w6 (some E.R)) := grown_tr HGM.out hg6
        have hs6 := hg6.size
        rw [mid4_size] at hs6
        have hZ6 : w6.heap[w.heap.size]? = some ZS := kept_on hg6 (by omega) ((mid4_far (by omega)).trans HZ5.out)
        have hX6 : w6.heap[w1.heap.size]? = some (sttO kind s x.kind x.n x.name (.slice xa x.kids.length xc) (.slice none 0 0) (.slice none 0 0)) := kept_on hg6 (by omega) (mid4_at HS5.out)
        have HQ6 : Hid (ExQ (fun b => w.heap.size < b ∧ b < w6.heap.size) w6 n x xa) := HQ.out.on (by (try simp only [asz]); omega) (by omega) (fun b h1 h2 => by (try simp only [asz] at h1); exact (hg6.block b (by rw [mid4_size]; omega) (by simp; omega)).trans (mid4_far (by omega)))
        clear hg6 x0 x1 x2 x3 x4 x5 x6 x7 f0 f1 f2 f3 f4 f5 f6 f7
        cases r6 with
        | error er =>
          clear hZ6 hX6
          obtain ⟨e1, e2⟩ := er
          obtain ⟨rfl, hd6⟩ := hf6
          have HD6 := hide2 hd6
          have HRr : Hid (r = .error (e1, e2)) := HE6.out
          clear hd6
          go_wp2
          exact ⟨rfl, HG6.out, by rw [HRr.out]; exact ⟨rfl, HD6.out⟩⟩
        | ok qx =>
          obtain ⟨q6, u6⟩ := qx
          obtain ⟨⟨v, rfl, rfl⟩, hd6⟩ := hf6
          have HD6 := hide2 hd6
          have HRr : Hid (r = .ok (q6, ⟨kind, s, x, [], []⟩)) := HE6.out
          obtain ⟨⟨z0, z1, z2, z3, z4, z5, z6, z7⟩, y0, y1, y2, y3, y4, y5, y6, y7⟩ := st_cells hZ6
          obtain ⟨⟨x0, x1, x2, x3, x4, x5, x6, x7⟩, _⟩ := st_cells hX6
          clear hd6 hZ6 hX6
          go_wp2
          refine bodyPost_ret (v := sttV ⟨kind, s, x, [], []⟩ xa xc none 0 none 0) (by simp [results, Tryz.results126, go_sem, z0, z1, z2, z3, z4, z5, z6, z7]) rfl ?_
          exact st_end G h.out HG6.out HD6.out HRr.out (StQ.plain hs HQ6.out)

end Go.Proofs.YtlnikpcoejpknaaGreatDoor

