/- Words with a blank behind each; how long a program's text is at most. -/
import Derived.Test.YtbbklahhnepiaaaDoorPw2
import Derived.Lib.ItoaLen
import Derived.Lib.Join
namespace Go.Proofs.YtbbklahhnepiaaaDoor
namespace Sy

/-- Words, a blank behind each. -/
def flat (ws : List ByteArray) : List UInt8 := ws.flatMap fun w => w.data.toList ++ [32]
theorem flat_nil : flat [] = [] := rfl
theorem flat_app (a b : List ByteArray) : flat (a ++ b) = flat a ++ flat b := by simp [flat]
theorem flat_cons (x : ByteArray) (l : List ByteArray) : flat (x :: l) = x.data.toList ++ [32] ++ flat l := by simp [flat]

/-- How many bytes that is. -/
def wt (ws : List ByteArray) : Nat := (flat ws).length
theorem wt_nil : wt [] = 0 := rfl
theorem wt_app (a b : List ByteArray) : wt (a ++ b) = wt a + wt b := by simp [wt, flat_app]
theorem wt_cons (x : ByteArray) (l : List ByteArray) : wt (x :: l) = x.size + 1 + wt l := by
  unfold wt
  rw [flat_cons, List.length_append, List.length_append, Array.length_toList]
  rfl
theorem len_wt : ∀ l : List ByteArray, l.length ≤ wt l
  | [] => Nat.le_refl _
  | x :: l => by have := len_wt l; rw [wt_cons, List.length_cons]; omega

theorem nm_size {s : ByteArray} (h : nm s = true) : s.size ≤ 12 := by
  by_cases h1 : 12 < s.size
  · have := named_bad (.inr h1)
    unfold nm at h
    rw [this] at h
    cases h
  · omega

theorem nm_pos {s : ByteArray} (h : nm s = true) : 0 < s.size := by
  by_cases h1 : s.size = 0
  · have := named_bad (.inl h1)
    unfold nm at h
    rw [this] at h
    cases h
  · omega

theorem num_size (n : Int) (h0 : 0 ≤ n) (h1 : n ≤ 999999999999999) : (numT n).size ≤ 21 := by
  have := Go.Lib.itoa_length_le n (by omega) (by omega)
  have e : (numT n).size = (Go.Lib.itoa n).length := List.size_toArray
  omega

theorem truth_size (n : Int) : (truthT n).size ≤ 5 := by unfold truthT; split <;> decide

theorem sign_size (k : Int) : (sign k).size ≤ 3 := by
  unfold sign
  cases h : table.find? (fun p => p.1 == k) with
  | none => exact Nat.zero_le _
  | some p =>
    have hm := List.mem_of_find?_eq_some h
    simp only [Option.map_some, Option.getD_some]
    have : ∀ p ∈ table, p.2.1.size ≤ 3 := by decide
    exact this p hm

/-- A sum over things that are looked at one behind the other. -/
def tot {α : Type} (g : α → Nat) : List α → Nat
  | [] => 0
  | a :: l => g a + tot g l

theorem runs_tot {α : Type} {f : α → Nat → Except Int Nat} {g : α → Nat} (hf : ∀ a i j, f a i = .ok j → g a + 400 * i ≤ 400 * j) : ∀ (l : List α) (n m : Nat), runs f l n = .ok m → tot g l + 400 * n ≤ 400 * m
  | [], n, m, h => by simp [runs] at h; simp [tot]; omega
  | a :: l, n, m, h => by
    unfold runs at h
    cases ha : f a n with
    | error e => rw [ha] at h; simp at h
    | ok k =>
      rw [ha] at h
      have h1 := hf a n k ha
      have h2 := runs_tot hf l k m h
      unfold tot
      omega

theorem wt_list {α : Type} (f : α → List ByteArray) : ∀ (l : List α) (i : Nat), wt (listT f i l) ≤ tot (fun a => wt (f a)) l + 2 * l.length
  | [], i => by simp [listT, wt_nil, tot]
  | a :: l, i => by
    have := wt_list f l (i + 1)
    unfold listT tot
    rw [wt_app, wt_app, List.length_cons]
    split
    · rw [wt_cons, wt_nil]
      have : (⟨#[44]⟩ : ByteArray).size = 1 := rfl
      omega
    · rw [wt_nil]; omega

theorem wt_flat {α : Type} (f : α → List ByteArray) : ∀ (l : List α), wt (l.flatMap f) = tot (fun a => wt (f a)) l
  | [] => rfl
  | a :: l => by rw [List.flatMap_cons, wt_app, wt_flat f l]; rfl

theorem wt_br (f : Ex → List ByteArray) (lv : Int) (x : Ex) : wt (brT f lv x) ≤ wt (f x) + 4 := by
  unfold brT
  split
  · omega
  · rw [wt_app, wt_app, wt_cons, wt_cons, wt_nil]
    have : (⟨#[40]⟩ : ByteArray).size = 1 := rfl
    have : (⟨#[41]⟩ : ByteArray).size = 1 := rfl
    omega

theorem wt_call (f : Ex → List ByteArray) (ah : List ByteArray) (kids : List Ex) : wt (callT f ah kids) ≤ wt ah + 4 + tot (fun a => wt (f a)) kids + 2 * kids.length := by
  unfold callT
  have := wt_list f kids 0
  rw [wt_app, wt_app, wt_app, wt_cons, wt_cons, wt_nil]
  have : (⟨#[40]⟩ : ByteArray).size = 1 := rfl
  have : (⟨#[41]⟩ : ByteArray).size = 1 := rfl
  omega

theorem head_parts {x : Ex} (h : exHead x = 0) :
    (x.kind = 1 → 0 ≤ x.n ∧ x.n ≤ 999999999999999) ∧ ((x.kind = 3 ∨ x.kind = 19 ∨ x.kind = 20 ∨ x.kind = 22) → nm x.name = true) ∧ least x.kind ≤ x.kids.length ∧ (x.kids.length : Int) ≤ most x.kind := by
  unfold exHead at h
  split at h
  · omega
  · rename_i h1
    split at h
    · omega
    · rename_i h2
      split at h
      · omega
      · rename_i h3
        refine ⟨fun hk => ?_, fun hk => ?_, by omega, by omega⟩
        · omega
        · cases hn : nm x.name with
          | true => rfl
          | false => exact absurd ⟨hk, hn⟩ h2

theorem most_le (k : Int) : most k ≤ 6 := by
  unfold most
  repeat' split
  all_goals omega

theorem ex_wt : ∀ (d : Nat) (x : Ex) (n m : Nat), exW d x n = .ok m → wt (exT d x) + 400 * n ≤ 400 * m
  | 0, x, n, m, h => by simp [exW] at h
  | d + 1, x, n, m, h => by
    unfold exW at h
    split at h
    · simp at h
    · rename_i h0
      have hz := nodeW_zero (by simpa using h0 : nodeW x.kind 24 (d + 1) n = 0)
      split at h
      · simp at h
      · rename_i h1
        obtain ⟨p1, p2, p3, p4⟩ := head_parts (by simpa using h1 : exHead x = 0)
        have ht := runs_tot (g := fun a => wt (exT d a)) (fun a i j => ex_wt d a i j) x.kids (n + 1) m h
        have hm6 := most_le x.kind
        obtain ⟨T, hT⟩ : ∃ T, T = tot (fun a => wt (exT d a)) x.kids := ⟨_, rfl⟩
        suffices hs : wt (exT (d + 1) x) ≤ T + 400 by omega
        have call : ∀ ah, wt ah ≤ 200 → wt (callT (exT d) ah x.kids) ≤ T + 400 := by
          rw [hT]
          intro ah hah
          have := wt_call (exT d) ah x.kids
          omega
        have neg : ∀ s : ByteArray, s.size ≤ 5 → x.kind = 4 ∨ x.kind = 5 → wt ([s] ++ brT (exT d) 6 (x.kids.headD ⟨0, 0, ⟨#[]⟩, []⟩)) ≤ T + 400 := by
          rw [hT]
          intro s hs hk
          have hl : x.kids.length = 1 := by
            have : least x.kind = 1 ∧ most x.kind = 1 := by rcases hk with hk | hk <;> rw [hk] <;> decide
            omega
          obtain ⟨k, hk1⟩ := List.length_eq_one_iff.1 hl
          rw [hk1, wt_app, wt_cons, wt_nil]
          have := wt_br (exT d) 6 k
          simp only [List.headD_cons, tot]
          omega
        unfold exT
        by_cases hlev : 0 < lev x.kind
        · rw [if_pos hlev]
          have hl : x.kids.length = 2 := by
            have : least x.kind = 2 ∧ most x.kind = 2 := by
              have : 6 ≤ x.kind ∧ x.kind ≤ 18 := by
                unfold lev at hlev
                repeat' split at hlev
                all_goals omega
              unfold least most
              repeat' split
              all_goals omega
            omega
          obtain ⟨a, b, hab⟩ : ∃ a b, x.kids = [a, b] := by
            match hx : x.kids, hl with
            | [a, b], _ => exact ⟨a, b, rfl⟩
          rw [hab] at hT
          simp only [tot] at hT
          rw [hab, hT]
          clear hT call neg
          show wt (brT (exT d) (if lev x.kind = 3 then 4 else lev x.kind) a ++ [sign x.kind] ++ brT (exT d) (lev x.kind + 1) b) ≤ _
          rw [wt_app, wt_app, wt_cons, wt_nil]
          have := wt_br (exT d) (if lev x.kind = 3 then 4 else lev x.kind) a
          have := wt_br (exT d) (lev x.kind + 1) b
          have := sign_size x.kind
          omega
        rw [if_neg hlev]
        by_cases hk : x.kind = 1
        · rw [if_pos hk]
          have := num_size x.n (p1 hk).1 (p1 hk).2
          rw [wt_cons, wt_nil]; omega
        rw [if_neg hk]
        by_cases hk : x.kind = 2
        · rw [if_pos hk]
          have := truth_size x.n
          rw [wt_cons, wt_nil]; omega
        rw [if_neg hk]
        by_cases hk : x.kind = 3
        · rw [if_pos hk]
          have := nm_size (p2 (.inl hk))
          rw [wt_cons, wt_nil]; omega
        rw [if_neg hk]
        by_cases hk : x.kind = 4
        · rw [if_pos hk]; exact neg _ (by decide) (.inl hk)
        rw [if_neg hk]
        by_cases hk : x.kind = 5
        · rw [if_pos hk]; exact neg _ (by decide) (.inr hk)
        rw [if_neg hk]
        by_cases hk : x.kind = 19
        · rw [if_pos hk]
          have := nm_size (p2 (.inr (.inl hk)))
          exact call _ (by rw [wt_cons, wt_nil]; omega)
        rw [if_neg hk]
        by_cases hk : x.kind = 20
        · rw [if_pos hk]
          have := nm_size (p2 (.inr (.inr (.inl hk))))
          rw [wt_cons, wt_cons, wt_cons, wt_cons, wt_nil]
          have : (⟨#[114, 101, 99, 118]⟩ : ByteArray).size = 4 := rfl
          have : (⟨#[40]⟩ : ByteArray).size = 1 := rfl
          have : (⟨#[41]⟩ : ByteArray).size = 1 := rfl
          omega
        rw [if_neg hk]
        by_cases hk : x.kind = 21
        · rw [if_pos hk]; exact call _ (by decide)
        rw [if_neg hk]
        by_cases hk : x.kind = 22
        · rw [if_pos hk]
          have := nm_size (p2 (.inr (.inr (.inr hk))))
          refine call _ ?_
          rw [wt_cons, wt_cons, wt_nil]
          have : (⟨#[115, 116, 97, 114, 116]⟩ : ByteArray).size = 5 := rfl
          omega
        rw [if_neg hk]
        by_cases hk : x.kind = 23
        · rw [if_pos hk]; exact call _ (by decide)
        rw [if_neg hk]
        exact call _ (by decide)

theorem wt_body (f : St → List ByteArray) (l : List St) : wt (bodyT f l) = tot (fun a => wt (f a)) l + 4 := by
  unfold bodyT
  rw [wt_app, wt_app, wt_flat, wt_cons, wt_cons, wt_nil]
  have : (⟨#[123]⟩ : ByteArray).size = 1 := rfl
  have : (⟨#[125]⟩ : ByteArray).size = 1 := rfl
  omega

theorem bodyOf_tot {f : St → Nat → Except Int Nat} {g : St → Nat} (hf : ∀ a i j, f a i = .ok j → g a + 400 * i ≤ 400 * j) {l : List St} {n m : Nat} (h : bodyOf f l n = .ok m) : tot g l + 400 * n ≤ 400 * m := by
  unfold bodyOf at h
  split at h
  · simp at h
  · exact runs_tot hf l n m h

theorem st_wt : ∀ (d : Nat) (s : St) (n m : Nat), stW d s n = .ok m → wt (stT d s) + 400 * n ≤ 400 * m
  | 0, s, n, m, h => by simp [stW] at h
  | d + 1, s, n, m, h => by
    unfold stW at h
    split at h
    · simp at h
    · rename_i h0
      have hz := nodeW_zero (by simpa using h0 : nodeW s.kind 9 (d + 1) n = 0)
      split at h
      · simp at h
      · rename_i h1
        have hnm : (s.kind = 1 ∨ s.kind = 2 ∨ s.kind = 7) → s.name.size ≤ 12 := fun hk => nm_size (by
          cases hn : nm s.name with
          | true => rfl
          | false => exact absurd ⟨hk, hn⟩ h1)
        split at h
        · rename_i h6
          simp at h
          have : stT (d + 1) s = [⟨#[115, 116, 111, 112]⟩, ⟨#[59]⟩] := by
            unfold stT
            rw [if_neg (by omega), if_neg (by omega), if_neg (by omega), if_neg (by omega), if_neg (by omega), if_pos h6]
          rw [this]
          have : wt [⟨#[115, 116, 111, 112]⟩, ⟨#[59]⟩] = 7 := by decide
          omega
        · rename_i h6
          cases hx : exW d s.x (n + 1) with
          | error e => rw [hx] at h; simp at h
          | ok k =>
            rw [hx] at h
            simp only at h
            have hw := ex_wt d s.x (n + 1) k hx
            have w1 : ∀ a : UInt8, wt [⟨#[a]⟩] = 2 := fun a => rfl
            have end1 : ∀ ah, wt ah ≤ 100 → s.kind ≠ 3 → s.kind ≠ 4 → wt (ah ++ exT d s.x ++ [⟨#[59]⟩]) + 400 * n ≤ 400 * m := by
              intro ah hah h3 h4
              unfold stTail at h
              rw [if_neg (by omega)] at h
              simp at h
              rw [wt_app, wt_app, w1]
              omega
            unfold stT
            split
            · rename_i hk
              refine end1 _ ?_ (by omega) (by omega)
              have := hnm (.inl hk)
              rw [wt_cons, wt_cons, w1]
              have : (⟨#[108, 101, 116]⟩ : ByteArray).size = 3 := rfl
              omega
            · split
              · rename_i hk
                refine end1 _ ?_ (by omega) (by omega)
                have := hnm (.inr (.inl hk))
                rw [wt_cons, w1]
                omega
              · split
                · rename_i hk
                  unfold stTail at h
                  rw [if_pos (.inl hk)] at h
                  cases hb : bodyOf (stW d) s.body k with
                  | error e => rw [hb] at h; simp at h
                  | ok k2 =>
                    rw [hb] at h
                    simp only [hk, if_true] at h
                    have hb1 := bodyOf_tot (g := fun a => wt (stT d a)) (fun a i j => st_wt d a i j) hb
                    have hb2 := bodyOf_tot (g := fun a => wt (stT d a)) (fun a i j => st_wt d a i j) h
                    rw [wt_app, wt_app, wt_app, wt_body]
                    have : wt [⟨#[105, 102]⟩] = 3 := rfl
                    split
                    · rw [wt_nil]; omega
                    · rw [wt_app, wt_body]
                      have : wt [⟨#[101, 108, 115, 101]⟩] = 5 := rfl
                      omega
                · split
                  · rename_i hk3 hk
                    unfold stTail at h
                    rw [if_pos (.inr hk)] at h
                    cases hb : bodyOf (stW d) s.body k with
                    | error e => rw [hb] at h; simp at h
                    | ok k2 =>
                      rw [hb] at h
                      simp only [hk3, if_false] at h
                      have hb1 := bodyOf_tot (g := fun a => wt (stT d a)) (fun a i j => st_wt d a i j) hb
                      simp at h
                      rw [wt_app, wt_app, wt_body]
                      have : wt [⟨#[119, 104, 105, 108, 101]⟩] = 6 := rfl
                      omega
                  · split
                    · exact end1 _ (by decide) (by omega) (by omega)
                    · split
                      · rename_i hk
                        refine end1 _ ?_ (by omega) (by omega)
                        have := hnm (.inr (.inr hk))
                        rw [wt_cons, wt_cons, wt_nil]
                        have : (⟨#[115, 101, 110, 100]⟩ : ByteArray).size = 4 := rfl
                        omega
                      · split
                        · exact end1 _ (by decide) (by omega) (by omega)
                        · exact end1 _ (by decide) (by omega) (by omega)

theorem ty_wt {t : Ty} (h : tyW t = 0) : wt (tyT t) ≤ 13 := by
  unfold tyW at h
  unfold tyT
  rw [wt_cons, wt_nil]
  split at h
  · omega
  · rename_i h1
    split at h
    · omega
    · rename_i h2
      split
      · decide
      · split
        · decide
        · have h3 : t.kind = 3 := by omega
          have : nm t.gen = true := by
            cases hn : nm t.gen with
            | true => rfl
            | false => exact absurd ⟨h3, hn⟩ h2
          have := nm_size this
          omega

theorem pms_tot : ∀ (l : List Pm), pmsW l = 0 → tot (fun a => wt (pmT a)) l ≤ 26 * l.length
  | [], _ => by simp [tot]
  | p :: l, h => by
    unfold pmsW at h
    split at h
    · omega
    · rename_i h1
      split at h
      · rename_i h2; exact absurd h h2
      · rename_i h2
        have := pms_tot l h
        have := ty_wt (by simpa using h2 : tyW p.ty = 0)
        have := nm_size (by simpa using h1 : nm p.name = true)
        unfold tot
        have e : wt (pmT p) = p.name.size + 1 + wt (tyT p.ty) := by unfold pmT; rw [wt_app, wt_cons, wt_nil]
        rw [e, List.length_cons]
        omega

theorem pms_wt {l : List Pm} (h : pmsW l = 0) (h6 : l.length ≤ 6) : wt (pmsT l) ≤ 172 := by
  unfold pmsT
  have := pms_tot l h
  have := wt_list pmT l 0
  rw [wt_app, wt_app, wt_cons, wt_cons, wt_nil]
  have : (⟨#[40]⟩ : ByteArray).size = 1 := rfl
  have : (⟨#[41]⟩ : ByteArray).size = 1 := rfl
  omega

theorem df_wt (d : Df) (n m : Nat) (h : dfW d n = .ok m) : wt (dfT d) + 400 * n ≤ 400 * m := by
  unfold dfW at h
  split at h
  · simp at h
  · rename_i h0
    have h0 : dfHead d n = 0 := by simpa using h0
    unfold dfHead at h0
    split at h0
    · rename_i h1; exact absurd h0 h1
    · rename_i hn
      have hz := nodeW_zero (by simpa using hn : nodeW d.kind 4 40 n = 0)
      split at h0
      · omega
      · rename_i hname
        have hname := nm_size (by simpa using hname : nm d.name = true)
        split at h0
        · omega
        · rename_i h6
          split at h0
          · rename_i h1; exact absurd h0 h1.2
          · rename_i hpm
            split at h0
            · rename_i h1; exact absurd h0 h1.2
            · rename_i htk
              split at h0
              · rename_i h1; exact absurd h0 h1.2
              · rename_i hty
                split at h0
                · omega
                · rename_i hcap
                  have pm : d.kind = 2 ∨ d.kind = 3 → wt (pmsT d.params) ≤ 172 := by
                    intro hk
                    refine pms_wt ?_ ?_
                    · by_cases he : pmsW d.params = 0
                      · exact he
                      · exact absurd ⟨hk, he⟩ hpm
                    · by_cases he : 6 < d.params.length
                      · exact absurd ⟨hk, he⟩ h6
                      · omega
                  have ty : d.kind ≠ 4 → wt (tyT d.ty) ≤ 13 := by
                    intro hk
                    refine ty_wt ?_
                    by_cases he : tyW d.ty = 0
                    · exact he
                    · exact absurd ⟨hk, he⟩ hty
                  have tk : d.kind = 3 → wt (tyT d.takes) ≤ 13 := by
                    intro hk
                    refine ty_wt ?_
                    by_cases he : tyW d.takes = 0
                    · exact he
                    · exact absurd ⟨hk, he⟩ htk
                  clear hpm hty htk h6
                  split at h
                  · rename_i hk
                    simp at h
                    have := ty (by omega)
                    have := num_size d.cap (by omega) (by omega)
                    unfold dfT
                    rw [if_pos hk, wt_app, wt_app, wt_cons, wt_cons, wt_cons, wt_cons, wt_nil]
                    have : (⟨#[98, 111, 120]⟩ : ByteArray).size = 3 := rfl
                    have : (⟨#[59]⟩ : ByteArray).size = 1 := rfl
                    omega
                  · rename_i hk
                    have hb := bodyOf_tot (g := fun a => wt (stT 39 a)) (fun a i j => st_wt 39 a i j) h
                    unfold dfT
                    rw [if_neg hk]
                    split
                    · rename_i hk2
                      have := pm (.inl hk2)
                      have := ty (by omega)
                      rw [wt_app, wt_app, wt_app, wt_body, wt_cons, wt_cons, wt_nil]
                      have : (⟨#[102, 110]⟩ : ByteArray).size = 2 := rfl
                      omega
                    · split
                      · rename_i hk3
                        have := pm (.inr hk3)
                        have := ty (by omega)
                        have := tk hk3
                        rw [wt_app, wt_app, wt_app, wt_app, wt_app, wt_app, wt_body, wt_cons, wt_cons, wt_nil]
                        have : (⟨#[103, 101, 110]⟩ : ByteArray).size = 3 := rfl
                        have : wt [⟨#[116, 97, 107, 101, 115]⟩] = 6 := rfl
                        have : wt [⟨#[121, 105, 101, 108, 100, 115]⟩] = 7 := rfl
                        omega
                      · rw [wt_app, wt_body, wt_cons, wt_cons, wt_nil]
                        have : (⟨#[116, 97, 115, 107]⟩ : ByteArray).size = 4 := rfl
                        omega

theorem dfW_most {d : Df} {n m : Nat} (h : dfW d n = .ok m) : m ≤ 2000 := by
  unfold dfW at h
  split at h
  · simp at h
  · rename_i h0
    have h0 : dfHead d n = 0 := by simpa using h0
    unfold dfHead at h0
    split at h0
    · rename_i h1; exact absurd h0 h1
    · rename_i hn
      have hz := nodeW_zero (by simpa using hn : nodeW d.kind 4 40 n = 0)
      split at h
      · simp at h; omega
      · exact bodyOf_le (stW_le 39) (by omega) h

theorem defs_wt : ∀ (l : List Df) (i n : Nat), (defsW l i n).1 = 0 → n ≤ 2000 → wt (progT l) + 400 * n ≤ 800000
  | [], i, n, _, hn => by simp [progT, wt_nil]; omega
  | d :: l, i, n, h, hn => by
    unfold defsW at h
    cases hd : dfW d n with
    | error e =>
      rw [hd] at h
      simp only at h
      subst h
      exfalso
      exact dfW_ne hd rfl
    | ok m =>
      rw [hd] at h
      have h1 := df_wt d n m hd
      have h2 := defs_wt l (i + 1) m h (dfW_most hd)
      have : progT (d :: l) = dfT d ++ progT l := by simp [progT]
      rw [this, wt_app]
      omega

/-- Words joined by blanks are the words with a blank behind each, without the last byte. -/
theorem join_flat : ∀ (ws : List ByteArray), Lib.join (ws.map (·.data.toList)) [32] = (flat ws).take ((flat ws).length - 1)
  | [] => rfl
  | x :: l => by
    have hj : ∀ (l : List ByteArray), Lib.joinTail [32] (l.map (·.data.toList)) ++ [32] = [32] ++ flat l := by
      intro l
      induction l with
      | nil => rfl
      | cons y l ih =>
        have : Lib.joinTail [32] ((y :: l).map (·.data.toList)) = [32] ++ y.data.toList ++ Lib.joinTail [32] (l.map (·.data.toList)) := by simp [Lib.joinTail]
        rw [this, List.append_assoc, ih, flat_cons]
        simp
    rw [List.map_cons, Lib.join_cons]
    have e : flat (x :: l) = (x.data.toList ++ Lib.joinTail [32] (l.map (·.data.toList))) ++ [32] := by
      rw [flat_cons, List.append_assoc, ← hj l]; simp
    rw [e, List.length_append, List.length_singleton, Nat.add_sub_cancel, List.take_left']
    rfl

end Sy
end Go.Proofs.YtbbklahhnepiaaaDoor
