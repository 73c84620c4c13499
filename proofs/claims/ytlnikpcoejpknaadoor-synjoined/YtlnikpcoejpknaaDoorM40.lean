/- WHAT syn.Read ANSWERS. -/
import Derived.Test.YtlnikpcoejpknaaDoorM39
import Derived.Test.YtlnikpcoejpknaaDoorM28
namespace Go.Proofs.YtlnikpcoejpknaaDoor
open Go.RowKit

theorem dfs_none (Q : Nat → Prop) (w : World) : DfsQ Q w [] none := fun i d hi => by simp at hi

theorem read_any (s : ByteArray) (w : World) (hs : s.size ≤ maxLen) (hT : TabV w 0) :
    Calls Tryd.prog 10 #[.string s] w fun e w' => ∃ a c, e = .returned (.tuple #[.slice a (readL s).1.length c, .agg #[.int .i64 (readL s).2.1, .int .i64 (readL s).2.2]]) ∧ (readL s).1.length ≤ 6000 ∧ DfsQ (fun b => w.heap.size ≤ b ∧ b < w'.heap.size) w' (readL s).1 a ∧ Below w.heap.size w w' := by
  by_cases h0 : (Lx.lexB s).2.1 = 0
  · cases hr : Rp.program (Lx.lexB s).1 s.size with
    | error e =>
      obtain ⟨er, at'⟩ := e
      have hR : readL s = ([], er, (at' : Int)) := by unfold readL; rw [if_neg (by simpa using h0), hr]
      rw [hR]
      refine (read_fault s w hs h0 hT er at' hr).mono ?_
      rintro e w' ⟨rfl, hb⟩
      exact ⟨none, 0, rfl, Nat.zero_le _, dfs_none _ _, hb⟩
    | ok p =>
      obtain ⟨q, dl⟩ := p
      refine (read_good s w hs h0 hT q dl hr _ rfl).mono ?_
      rintro e w' ⟨⟨h1, h2⟩, hb⟩
      by_cases hw : (Sy.wrongL dl).1 = 0
      · have hR : readL s = (dl, 0, 0) := by unfold readL; rw [if_neg (by simpa using h0), hr]; simp [hw]
        rw [hR]
        obtain ⟨a, c, rfl, hl, hq⟩ := h1 hw
        exact ⟨a, c, rfl, hl, hq, hb⟩
      · have hR : readL s = ([], (Sy.wrongL dl).1, 0) := by unfold readL; rw [if_neg (by simpa using h0), hr]; simp [hw]
        rw [hR]
        exact ⟨none, 0, h2 hw, Nat.zero_le _, dfs_none _ _, hb⟩
  · have hR : readL s = ([], ((Lx.lexB s).2.1 : Int), ((Lx.lexB s).2.2 : Int)) := by unfold readL; rw [if_pos h0]
    rw [hR]
    refine (read_lex s w hs h0).mono ?_
    rintro e w' ⟨rfl, hb⟩
    exact ⟨none, 0, rfl, Nat.zero_le _, dfs_none _ _, hb⟩

end Go.Proofs.YtlnikpcoejpknaaDoor

/- Two lists of tokens that agree are read alike. -/
namespace Go.Proofs.YtlnikpcoejpknaaDoor
open Go.RowKit
namespace Rp

/-- Two tokens alike, but for where they stand. -/
def Lk (a b : Lx.Tk) : Prop := a.kind = b.kind ∧ a.text = b.text ∧ a.num = b.num

/-- The first n tokens of one list stand in the other from k on. -/
structure Ag (l1 : List Lx.Tk) (e1 : Nat) (l2 : List Lx.Tk) (e2 k n : Nat) : Prop where
  len : l1.length ≤ l2.length
  pks : ∀ i, i < n → Lk (pk l1 i e1) (pk l2 (k + i) e2)
  tks : ∀ i s, i < n → tk l2 (k + i) s = tk l1 i s

section
variable {l1 l2 : List Lx.Tk} {e1 e2 k n : Nat}

/-- What is read of one list ahead of n is read of the other, k further on. -/
def Sim (l1 : List Lx.Tk) (k n : Nat) {α : Type} (f1 f2 : Nat → Res α) : Prop := ∀ p q x, p ≤ l1.length → f1 p = .ok (q, x) → q < n → f2 (k + p) = .ok (k + q, x)
/-- The same, up to n. -/
def SimE (l1 : List Lx.Tk) (k n : Nat) {α : Type} (f1 f2 : Nat → Res α) : Prop := ∀ p q x, p ≤ l1.length → f1 p = .ok (q, x) → q ≤ n → f2 (k + p) = .ok (k + q, x)

theorem SimE.sim {α : Type} {f1 f2 : Nat → Res α} (h : SimE l1 k n f1 f2) : Sim l1 k n f1 f2 := fun p q x hp h1 hq => h p q x hp h1 (by omega)

theorem andThen_ok {α β : Type} {r : Res α} {q : Nat} {x : α} (f : Nat → α → Res β) (h : r = .ok (q, x)) : andThen r f = f q x := by rw [h]; rfl

theorem want_simE (A : Ag l1 e1 l2 e2 k n) (s : ByteArray) : SimE l1 k n (want l1 e1 s) (want l2 e2 s) := by
  intro p q x hp h hq
  unfold want wantL at h ⊢
  cases ht : tk l1 p s with
  | false => simp [ht] at h
  | true =>
    simp only [ht, if_true, Except.ok.injEq, Prod.mk.injEq, and_true] at h
    subst h
    rw [A.tks p s (by omega), ht]
    rfl
theorem name_simE (A : Ag l1 e1 l2 e2 k n) : SimE l1 k n (name l1 e1) (name l2 e2) := by
  intro p q x hp h hq
  cases hw : nameL l1 p e1 with
  | error e => unfold name at h; rw [hw] at h; simp at h
  | ok q' =>
    have hq' := (nameL_le hw).1
    unfold name at h
    rw [hw] at h
    simp only [Except.ok.injEq, Prod.mk.injEq] at h
    obtain ⟨rfl, rfl⟩ := h
    obtain ⟨c1, c2, c3⟩ := A.pks p (by omega)
    unfold nameL at hw
    unfold name nameL
    rw [← c1, ← c2]
    split at hw
    · simp at hw
    · rename_i h1
      split at hw
      · simp at hw
      · rename_i h2
        rw [if_neg h1, if_neg h2]
        simp only [hq']
        rfl
theorem typ_simE (A : Ag l1 e1 l2 e2 k n) : SimE l1 k n (typ l1 e1) (typ l2 e2) := by
  intro p q x hp h hq
  cases hw : typL l1 p e1 with
  | error e => unfold typ at h; rw [hw] at h; simp at h
  | ok q' =>
    have hq' := (typL_le hw).1
    unfold typ at h
    rw [hw] at h
    simp only [Except.ok.injEq, Prod.mk.injEq] at h
    obtain ⟨rfl, rfl⟩ := h
    obtain ⟨c1, c2, c3⟩ := A.pks p (by omega)
    have t1 := A.tks p ⟨#[110, 117, 109]⟩ (by omega)
    have t2 := A.tks p ⟨#[98, 111, 111, 108]⟩ (by omega)
    have hN := name_simE A p q' (pk l1 p e1).text hp
    unfold name at hN
    unfold typL at hw
    unfold typ typL tyAt
    rw [t1, t2]
    split at hw
    · rename_i h1
      simp only [Except.ok.injEq] at hw
      subst hw
      rw [if_pos h1, if_pos h1, if_pos h1]
      rfl
    · rename_i h1
      rw [if_neg h1, if_neg h1, if_neg h1]
      split at hw
      · rename_i h2
        simp only [Except.ok.injEq] at hw
        subst hw
        rw [if_pos h2, if_pos h2, if_pos h2]
        rfl
      · rename_i h2
        rw [if_neg h2, if_neg h2, if_neg h2]
        rw [hw] at hN
        have hN2 := hN rfl hq
        split at hN2
        · rename_i q2 h3
          simp only [Except.ok.injEq, Prod.mk.injEq] at hN2
          rw [h3]
          simp only [Except.ok.injEq, Prod.mk.injEq]
          exact ⟨hN2.1, by rw [c2]⟩
        · simp at hN2
theorem places_simE (A : Ag l1 e1 l2 e2 k n) : SimE l1 k n (places l1 e1) (places l2 e2) := by
  intro p q x hp h hq
  cases hw : placesL l1 p e1 with
  | error e => unfold places at h; rw [hw] at h; simp at h
  | ok q' =>
    have hq' := (placesL_le hw).1
    unfold places at h
    rw [hw] at h
    simp only [Except.ok.injEq, Prod.mk.injEq] at h
    obtain ⟨rfl, rfl⟩ := h
    obtain ⟨c1, c2, c3⟩ := A.pks p (by omega)
    unfold placesL at hw
    unfold places placesL
    rw [← c1, ← c3]
    split at hw
    · simp at hw
    · rename_i h1
      split at hw
      · simp at hw
      · rename_i h2
        rw [if_neg h1, if_neg h2]
        simp only [hq']
        rfl

theorem loop_sim (A : Ag l1 e1 l2 e2 k n) {x1 x2 : Nat → Res Sy.Ex} (hn : Adv l1 x1) (hs : Sim l1 k n x1 x2) (level : Int) (h0 : level ≠ 0) : ∀ (f1 f2 : Nat) (x : Sy.Ex) (p q : Nat) (y : Sy.Ex), p ≤ l1.length → l1.length < p + f1 → f1 ≤ f2 → loop l1 e1 x1 level f1 x p = .ok (q, y) → q < n → loop l2 e2 x2 level f2 x (k + p) = .ok (k + q, y)
  | 0, _, x, p, q, y, hp, hf, _, h, hq => by omega
  | f1 + 1, 0, x, p, q, y, hp, hf, hff, h, hq => by omega
  | f1 + 1, f2 + 1, x, p, q, y, hp, hf, hff, h, hq => by
    have hpq := (loop_adv hn level h0 _ _ _ _ _ hp h).1
    obtain ⟨c1, c2, c3⟩ := A.pks p (by omega)
    rw [loop] at h ⊢
    rw [← c2]
    by_cases hs' : (sign (pk l1 p e1).text).2 ≠ level
    · rw [if_pos hs'] at h ⊢
      simp only [Except.ok.injEq, Prod.mk.injEq] at h ⊢
      exact ⟨by omega, h.2⟩
    · rw [if_neg hs'] at h ⊢
      have hlt : p < l1.length := by
        by_cases hlt : p < l1.length
        · exact hlt
        · exfalso
          apply hs'
          have e : (pk l1 p e1).text = ⟨#[]⟩ := by unfold pk; rw [List.getElem?_eq_none (by omega)]; rfl
          rw [e]
          have : (sign ⟨#[]⟩).2 = 0 := by decide
          rw [this]
          exact fun e => h0 e.symm
      obtain ⟨q1, z, h1, h2⟩ := ok_andThen h
      have a1 := hn (p + 1) q1 z hlt h1
      have hq1 : q1 ≤ q := by
        split at h2
        · simp only [Except.ok.injEq, Prod.mk.injEq] at h2; omega
        · exact (loop_adv hn level h0 _ _ _ _ _ a1.2 h2).1
      refine (andThen_ok _ (hs (p + 1) q1 z hlt h1 (by omega))).trans ?_
      split at h2
      · rename_i h3
        rw [if_pos h3]
        simp only [Except.ok.injEq, Prod.mk.injEq] at h2 ⊢
        exact ⟨by omega, h2.2⟩
      · rename_i h3
        rw [if_neg h3]
        exact loop_sim A hn hs level h0 f1 f2 _ q1 q y a1.2 (by omega) (by omega) h2 hq
theorem from_sim (A : Ag l1 e1 l2 e2 k n) {x1 x2 : Nat → Res Sy.Ex} (hn : Adv l1 x1) (hs : Sim l1 k n x1 x2) : ∀ j, j ≤ 5 → Sim l1 k n (from' l1 e1 x1 j) (from' l2 e2 x2 j)
  | 0, _ => hs
  | j + 1, hj => by
    intro p q x hp h hq
    rw [from'] at h ⊢
    obtain ⟨q1, z, h1, h2⟩ := ok_andThen h
    have i1 := from_adv hn j (by omega) p q1 z hp h1
    have i2 := loop_adv (from_adv hn j (by omega)) (5 - j) (by omega) _ z q1 q x (by omega) h2
    refine (andThen_ok _ (from_sim A hn hs j (by omega) p q1 z hp h1 (by omega))).trans ?_
    have hl := A.len
    exact loop_sim A (from_adv hn j (by omega)) (from_sim A hn hs j (by omega)) _ (by omega) _ _ _ q1 q x i1.2 (by omega) (by omega) h2 hq

theorem limit_ok {bg : Lx.Tk → Bool} (hbg : ∀ a b, Lk a b → bg a = bg b) {a b : Lx.Tk} (hab : Lk a b) {m mo : Int} {p1 p2 z : Nat} (h : limitL bg m mo a p1 = .ok z) : limitL bg m mo b p2 = .ok p2 := by
  unfold limitL at h ⊢
  rw [← hbg a b hab]
  split at h
  · simp at h
  · rename_i h1; rw [if_neg h1]

theorem items_simE (A : Ag l1 e1 l2 e2 k n) {α : Type} {bg : Lx.Tk → Bool} (hbg : ∀ a b, Lk a b → bg a = bg b) {o1 o2 : Nat → Res α} (ho : Adv l1 o1) (hs : Sim l1 k n o1 o2) : ∀ (f1 f2 : Nat) (out : List α) (p q : Nat) (y : List α), p ≤ l1.length → l1.length < p + f1 → f1 ≤ f2 → items l1 e1 bg o1 f1 out p = .ok (q, y) → q ≤ n → items l2 e2 bg o2 f2 out (k + p) = .ok (k + q, y)
  | 0, _, out, p, q, y, hp, hf, _, h, hq => by omega
  | f1 + 1, 0, out, p, q, y, hp, hf, hff, h, hq => by omega
  | f1 + 1, f2 + 1, out, p, q, y, hp, hf, hff, h, hq => by
    rw [items] at h ⊢
    split at h
    · simp at h
    · rename_i z hz
      obtain ⟨q1, x1, h1, h2⟩ := ok_andThen h
      have a1 := ho p q1 x1 hp h1
      have hq1 : q1 < q := by
        split at h2
        · rename_i ht
          simp only [Except.ok.injEq, Prod.mk.injEq] at h2; omega
        · obtain ⟨q2, u, h3, h4⟩ := ok_andThen h2
          have := want_adv l1 e1 _ q1 q2 u (by omega) h3
          have := items_adv ho f1 _ q2 q y (by omega) h4
          omega
      rw [limit_ok hbg (A.pks p (by omega)) hz]
      refine (andThen_ok _ (hs p q1 x1 hp h1 (by omega))).trans ?_
      rw [A.tks q1 _ (by omega)]
      split at h2
      · rename_i ht
        rw [if_pos ht]
        simp only [Except.ok.injEq, Prod.mk.injEq] at h2 ⊢
        exact ⟨by omega, h2.2⟩
      · rename_i ht
        rw [if_neg ht]
        obtain ⟨q2, u, h3, h4⟩ := ok_andThen h2
        have a3 := want_adv l1 e1 _ q1 q2 u (by omega) h3
        have a4 := items_adv ho f1 _ q2 q y (by omega) h4
        refine (andThen_ok _ (want_simE A _ q1 q2 u a1.2 h3 (by omega))).trans ?_
        exact items_simE A hbg ho hs f1 f2 _ q2 q y a3.2 (by omega) (by omega) h4 hq
theorem list_simE (A : Ag l1 e1 l2 e2 k n) {α : Type} {bg : Lx.Tk → Bool} (hbg : ∀ a b, Lk a b → bg a = bg b) {o1 o2 : Nat → Res α} (ho : Adv l1 o1) (hs : Sim l1 k n o1 o2) : SimE l1 k n (list l1 e1 bg o1) (list l2 e2 bg o2) := by
  intro p q x hp h hq
  obtain ⟨q1, u, h1, h2⟩ := ok_andThen h
  have a1 := want_adv l1 e1 _ p q1 u hp h1
  have hq1 : q1 < q ∨ q1 ≤ q ∧ tk l1 q1 ⟨#[41]⟩ = false := by
    split at h2
    · simp only [Except.ok.injEq, Prod.mk.injEq] at h2; omega
    · rename_i ht
      have := items_adv ho _ _ q1 q x (by omega) h2
      exact .inr ⟨this.1, by simpa using ht⟩
  refine (andThen_ok _ (want_simE A _ p q1 u hp h1 (by omega))).trans ?_
  split at h2
  · rename_i ht
    simp only [Except.ok.injEq, Prod.mk.injEq] at h2
    rw [A.tks q1 _ (by omega), if_pos ht]
    simp only [Except.ok.injEq, Prod.mk.injEq]
    exact ⟨by omega, h2.2⟩
  · rename_i ht
    have hl := A.len
    have hlt : q1 < q := by
      rw [items] at h2
      split at h2
      · simp at h2
      · obtain ⟨q2, x1, h3, h4⟩ := ok_andThen h2
        have a2 := ho q1 q2 x1 a1.2 h3
        split at h4
        · simp only [Except.ok.injEq, Prod.mk.injEq] at h4; omega
        · obtain ⟨q3, u3, h5, h6⟩ := ok_andThen h4
          have := want_adv l1 e1 _ q2 q3 u3 (by omega) h5
          have := items_adv ho _ _ q3 q x (by omega) h6
          omega
    rw [A.tks q1 _ (by omega), if_neg ht]
    exact items_simE A hbg ho hs _ _ _ q1 q x a1.2 (by omega) (by omega) h2 hq

theorem bgEx_lk (a b : Lx.Tk) (h : Lk a b) : bgEx a = bgEx b := by unfold bgEx; rw [h.1, h.2.1]
theorem bgSt_lk (a b : Lx.Tk) (h : Lk a b) : bgSt a = bgSt b := by unfold bgSt; rw [h.2.1]
theorem bgPm_lk (a b : Lx.Tk) (h : Lk a b) : bgPm a = bgPm b := by unfold bgPm; rw [h.2.1]
theorem bgDf_lk (a b : Lx.Tk) (h : Lk a b) : bgDf a = bgDf b := by unfold bgDf; rw [h.2.1]

theorem expr_sim (A : Ag l1 e1 l2 e2 k n) {x1 x2 : Nat → Res Sy.Ex} (hn : Adv l1 x1) (hs : Sim l1 k n x1 x2) (d : Nat) : Sim l1 k n (expr l1 e1 d x1) (expr l2 e2 d x2) := by
  intro p q x hp h hq
  unfold expr at h ⊢
  split at h
  · simp at h
  · rename_i h1
    rw [if_neg h1]
    exact from_sim A hn hs 5 (by omega) p q x hp h hq
theorem turned_sim {x1 x2 : Nat → Res Sy.Ex} (hs : Sim l1 k n x1 x2) (d : Nat) (kind : Int) : Sim l1 k n (turned l1 e1 d x1 kind) (turned l2 e2 d x2 kind) := by
  intro p q x hp h hq
  unfold turned at h ⊢
  split at h
  · simp at h
  · rename_i h1
    rw [if_neg h1]
    obtain ⟨q1, u, h2, h3⟩ := ok_andThen h
    simp only [Except.ok.injEq, Prod.mk.injEq] at h3
    obtain ⟨rfl, rfl⟩ := h3
    exact (andThen_ok _ (hs p q1 u hp h2 hq)).trans rfl
theorem kids_simE (A : Ag l1 e1 l2 e2 k n) {x1 x2 : Nat → Res Sy.Ex} (hn : Adv l1 x1) (hs : Sim l1 k n x1 x2) (d : Nat) : SimE l1 k n (kids l1 e1 d x1) (kids l2 e2 d x2) := list_simE A bgEx_lk (expr_adv hn) (expr_sim A hn hs d)
theorem receiving_simE (A : Ag l1 e1 l2 e2 k n) : SimE l1 k n (receiving l1 e1) (receiving l2 e2) := by
  intro p q x hp h hq
  obtain ⟨q1, x1, h1, a1, b1, h⟩ := then_adv (want_adv l1 e1 _) hp h
  obtain ⟨q2, x2, h2, a2, b2, h⟩ := then_adv (name_adv l1 e1) b1 h
  obtain ⟨q3, x3, h3, a3, b3, h⟩ := then_adv (want_adv l1 e1 _) b2 h
  simp only [Except.ok.injEq, Prod.mk.injEq] at h
  obtain ⟨rfl, rfl⟩ := h
  refine (andThen_ok _ (want_simE A _ p q1 x1 hp h1 (by omega))).trans ?_
  refine (andThen_ok _ (name_simE A q1 q2 x2 b1 h2 (by omega))).trans ?_
  exact (andThen_ok _ (want_simE A _ q2 q3 x3 b2 h3 (by omega))).trans rfl
theorem named_sim (A : Ag l1 e1 l2 e2 k n) {x1 x2 : Nat → Res Sy.Ex} (hn : Adv l1 x1) (hs : Sim l1 k n x1 x2) (d : Nat) : Sim l1 k n (named l1 e1 d x1) (named l2 e2 d x2) := by
  intro p q x hp h hq
  obtain ⟨q1, y1, h1, a1, b1, h⟩ := then_adv (name_adv l1 e1) hp h
  have hq1 : q1 ≤ q := by
    split at h
    · obtain ⟨q2, y2, h2, a2, b2, h⟩ := then_adv (list_adv (bg := bgEx) (expr_adv (en := e1) (d := d) hn)) b1 h
      simp only [Except.ok.injEq, Prod.mk.injEq] at h; omega
    · simp only [Except.ok.injEq, Prod.mk.injEq] at h; omega
  refine (andThen_ok _ (name_simE A p q1 y1 hp h1 (by omega))).trans ?_
  rw [← (A.pks q1 (by omega)).2.1]
  split at h
  · rename_i ht
    rw [if_pos ht]
    obtain ⟨q2, y2, h2, a2, b2, h⟩ := then_adv (list_adv (bg := bgEx) (expr_adv (en := e1) (d := d) hn)) b1 h
    simp only [Except.ok.injEq, Prod.mk.injEq] at h
    obtain ⟨rfl, rfl⟩ := h
    exact (andThen_ok _ (kids_simE A hn hs d q1 q2 y2 b1 h2 (by omega))).trans rfl
  · rename_i ht
    rw [if_neg ht]
    simp only [Except.ok.injEq, Prod.mk.injEq] at h ⊢
    exact ⟨by omega, h.2⟩
theorem exactly1_simE (A : Ag l1 e1 l2 e2 k n) {x1 x2 : Nat → Res Sy.Ex} (hn : Adv l1 x1) (hs : Sim l1 k n x1 x2) (d : Nat) : SimE l1 k n (exactly1 l1 e1 d x1) (exactly1 l2 e2 d x2) := by
  intro p q x hp h hq
  obtain ⟨q1, y1, h1, a1, b1, h⟩ := then_adv (want_adv l1 e1 _) hp h
  obtain ⟨q2, y2, h2, a2, b2, h⟩ := then_adv (expr_adv (en := e1) (d := d) hn) b1 h
  obtain ⟨q3, y3, h3, a3, b3, h⟩ := then_adv (want_adv l1 e1 _) b2 h
  simp only [Except.ok.injEq, Prod.mk.injEq] at h
  obtain ⟨rfl, rfl⟩ := h
  refine (andThen_ok _ (want_simE A _ p q1 y1 hp h1 (by omega))).trans ?_
  refine (andThen_ok _ (expr_sim A hn hs d q1 q2 y2 b1 h2 (by omega))).trans ?_
  exact (andThen_ok _ (want_simE A _ q2 q3 y3 b2 h3 (by omega))).trans rfl
theorem exactly2_simE (A : Ag l1 e1 l2 e2 k n) {x1 x2 : Nat → Res Sy.Ex} (hn : Adv l1 x1) (hs : Sim l1 k n x1 x2) (d : Nat) : SimE l1 k n (exactly2 l1 e1 d x1) (exactly2 l2 e2 d x2) := by
  intro p q x hp h hq
  obtain ⟨q1, y1, h1, a1, b1, h⟩ := then_adv (want_adv l1 e1 _) hp h
  obtain ⟨q2, y2, h2, a2, b2, h⟩ := then_adv (expr_adv (en := e1) (d := d) hn) b1 h
  obtain ⟨q3, y3, h3, a3, b3, h⟩ := then_adv (want_adv l1 e1 _) b2 h
  obtain ⟨q4, y4, h4, a4, b4, h⟩ := then_adv (expr_adv (en := e1) (d := d) hn) b3 h
  obtain ⟨q5, y5, h5, a5, b5, h⟩ := then_adv (want_adv l1 e1 _) b4 h
  simp only [Except.ok.injEq, Prod.mk.injEq] at h
  obtain ⟨rfl, rfl⟩ := h
  refine (andThen_ok _ (want_simE A _ p q1 y1 hp h1 (by omega))).trans ?_
  refine (andThen_ok _ (expr_sim A hn hs d q1 q2 y2 b1 h2 (by omega))).trans ?_
  refine (andThen_ok _ (want_simE A _ q2 q3 y3 b2 h3 (by omega))).trans ?_
  refine (andThen_ok _ (expr_sim A hn hs d q3 q4 y4 b3 h4 (by omega))).trans ?_
  exact (andThen_ok _ (want_simE A _ q4 q5 y5 b4 h5 (by omega))).trans rfl

/-- One test more, of a sign. -/
theorem ite_sim {α : Type} (A : Ag l1 e1 l2 e2 k n) {p q : Nat} {s : ByteArray} {a1 b1 a2 b2 : Res α} {x : α} (hpn : p < n) (h : (if tk l1 p s = true then a1 else b1) = .ok (q, x)) (ha : tk l1 p s = true → a1 = .ok (q, x) → a2 = .ok (k + q, x)) (hb : b1 = .ok (q, x) → b2 = .ok (k + q, x)) : (if tk l2 (k + p) s = true then a2 else b2) = .ok (k + q, x) := by
  rw [A.tks p s hpn]
  split at h
  · rename_i ht; rw [if_pos ht]; exact ha ht h
  · rename_i ht; rw [if_neg ht]; exact hb h

theorem piece_sim (A : Ag l1 e1 l2 e2 k n) {x1 x2 : Nat → Res Sy.Ex} (hn : Adv l1 x1) (hs : Sim l1 k n x1 x2) (d : Nat) : Sim l1 k n (piece l1 e1 d x1) (piece l2 e2 d x2) := by
  intro p q x hp h hq
  have hpq := (piece_adv hn p q x hp h).1
  obtain ⟨c1, c2, c3⟩ := A.pks p (by omega)
  unfold piece at h ⊢
  rw [← c1, ← c3]
  split at h
  · rename_i h1
    rw [if_pos h1]
    simp only [Except.ok.injEq, Prod.mk.injEq] at h ⊢
    exact ⟨by omega, h.2⟩
  rename_i h1
  rw [if_neg h1]
  have hpn : p < n := by omega
  have ok : ∀ (y : Sy.Ex), (.ok (p + 1, y) : Res Sy.Ex) = .ok (q, x) → (.ok (k + p + 1, y) : Res Sy.Ex) = .ok (k + q, x) := by
    intro y h
    simp only [Except.ok.injEq, Prod.mk.injEq] at h ⊢
    exact ⟨by omega, h.2⟩
  refine ite_sim A hpn h (fun ht h => ?_) fun h => ite_sim A hpn h (fun ht h => ok _ h) fun h => ite_sim A hpn h (fun ht h => ok _ h) fun h => ite_sim A hpn h (fun ht h => ?_) fun h => ite_sim A hpn h (fun ht h => ?_) fun h => ite_sim A hpn h (fun ht h => ?_) fun h => ite_sim A hpn h (fun ht h => ?_) fun h => ite_sim A hpn h (fun ht h => ?_) fun h => ?_
  · have hb := tk_step ht
    obtain ⟨q1, y1, h1, a1, b1, h⟩ := then_adv (expr_adv (en := e1) (d := d) hn) hb h
    obtain ⟨q2, y2, h2, a2, b2, h⟩ := then_adv (want_adv l1 e1 _) b1 h
    simp only [Except.ok.injEq, Prod.mk.injEq] at h
    obtain ⟨rfl, rfl⟩ := h
    refine (andThen_ok _ (expr_sim A hn hs d (p + 1) q1 y1 hb h1 (by omega))).trans ?_
    exact (andThen_ok _ (want_simE A _ q1 q2 y2 b1 h2 (by omega))).trans rfl
  · have hb := tk_step ht
    obtain ⟨q1, y1, h1, a1, b1, h⟩ := then_adv (name_adv l1 e1) hb h
    obtain ⟨q2, y2, h2, a2, b2, h⟩ := then_adv (list_adv (bg := bgEx) (expr_adv (en := e1) (d := d) hn)) b1 h
    simp only [Except.ok.injEq, Prod.mk.injEq] at h
    obtain ⟨rfl, rfl⟩ := h
    refine (andThen_ok _ (name_simE A (p + 1) q1 y1 hb h1 (by omega))).trans ?_
    exact (andThen_ok _ (kids_simE A hn hs d q1 q2 y2 b1 h2 (by omega))).trans rfl
  · exact receiving_simE A (p + 1) q x (tk_step ht) h (by omega)
  · have hb := tk_step ht
    obtain ⟨q1, y1, h1, a1, b1, h⟩ := then_adv (exactly1_adv (en := e1) (d := d) hn) hb h
    simp only [Except.ok.injEq, Prod.mk.injEq] at h
    obtain ⟨rfl, rfl⟩ := h
    exact (andThen_ok _ (exactly1_simE A hn hs d (p + 1) q1 y1 hb h1 (by omega))).trans rfl
  · have hb := tk_step ht
    obtain ⟨q1, y1, h1, a1, b1, h⟩ := then_adv (exactly1_adv (en := e1) (d := d) hn) hb h
    simp only [Except.ok.injEq, Prod.mk.injEq] at h
    obtain ⟨rfl, rfl⟩ := h
    exact (andThen_ok _ (exactly1_simE A hn hs d (p + 1) q1 y1 hb h1 (by omega))).trans rfl
  · have hb := tk_step ht
    obtain ⟨q1, y1, h1, a1, b1, h⟩ := then_adv (exactly2_adv (en := e1) (d := d) hn) hb h
    simp only [Except.ok.injEq, Prod.mk.injEq] at h
    obtain ⟨rfl, rfl⟩ := h
    exact (andThen_ok _ (exactly2_simE A hn hs d (p + 1) q1 y1 hb h1 (by omega))).trans rfl
  · exact named_sim A hn hs d p q x hp h hq

theorem aheadS_sim (A : Ag l1 e1 l2 e2 k n) {x1 x2 : Nat → Res Sy.Ex} (hn : Adv l1 x1) (hs : Sim l1 k n x1 x2) (d : Nat) : Sim l1 k n (aheadS l1 e1 d x1) (aheadS l2 e2 d x2) := by
  intro p q x hp h hq
  have hpq := (aheadS_adv hn p q x hp h).1
  have hpn : p < n := by omega
  unfold aheadS at h ⊢
  refine ite_sim A hpn h (fun ht h => turned_sim hs d 4 (p + 1) q x (tk_step ht) h hq) fun h => ite_sim A hpn h (fun ht h => turned_sim hs d 5 (p + 1) q x (tk_step ht) h hq) fun h => piece_sim A hn hs d p q x hp h hq
theorem ahead_sim (A : Ag l1 e1 l2 e2 k n) : ∀ d, Sim l1 k n (ahead l1 e1 d) (ahead l2 e2 d)
  | 0 => aheadS_sim A (fun p q x _ h => by simp at h) (fun p q x _ h => by simp at h) 0
  | d + 1 => aheadS_sim A (ahead_adv l1 e1 d) (ahead_sim A d) (d + 1)
theorem ex_sim (A : Ag l1 e1 l2 e2 k n) (d : Nat) : Sim l1 k n (ex l1 e1 d) (ex l2 e2 d) := by
  cases d with
  | zero => exact expr_sim A (prev_adv l1 e1 0) (fun p q x _ h => by simp [prevOf] at h) 0
  | succ d => exact expr_sim A (prev_adv l1 e1 (d + 1)) (ahead_sim A d) (d + 1)

end
end Rp
end Go.Proofs.YtlnikpcoejpknaaDoor

