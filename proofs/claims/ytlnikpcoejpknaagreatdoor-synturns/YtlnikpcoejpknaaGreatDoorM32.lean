/- A bare program is as right as it was; what is read is bare. -/
import Derived.Test.YtlnikpcoejpknaaGreatDoorM31
import Derived.Test.YtlnikpcoejpknaaGreatDoorM1
namespace Go.Proofs.YtlnikpcoejpknaaGreatDoor
open Go.RowKit
namespace Sy

theorem runs_map {α : Type} {f : α → Nat → Except Int Nat} {g : α → α} (h : ∀ a n, f (g a) n = f a n) : ∀ (l : List α) (n : Nat), runs f (l.map g) n = runs f l n
  | [], _ => rfl
  | a :: l, n => by
    rw [List.map_cons, runs, runs, h a n]
    cases f a n with
    | error e => rfl
    | ok m => exact runs_map h l m

theorem exW_bare : ∀ (d : Nat) (x : Ex) (n : Nat), exW d (exB d x) n = exW d x n
  | 0, _, _ => rfl
  | d + 1, x, n => by
    have hh : exHead (exB (d + 1) x) = exHead x := by
      unfold exHead
      have e1 : (exB (d + 1) x).kind = x.kind := rfl
      have e2 : (exB (d + 1) x).kids.length = x.kids.length := by rw [exB]; simp
      have e3 : (exB (d + 1) x).n = if x.kind = 1 ∨ x.kind = 2 then x.n else 0 := rfl
      have e4 : (exB (d + 1) x).name = if x.kind = 3 ∨ x.kind = 19 ∨ x.kind = 20 ∨ x.kind = 22 then x.name else ⟨#[]⟩ := rfl
      rw [e1, e2, e3, e4]
      by_cases h1 : x.kind = 1 ∨ x.kind = 2
      · rw [if_pos h1]
        have h2 : ¬ (x.kind = 3 ∨ x.kind = 19 ∨ x.kind = 20 ∨ x.kind = 22) := by omega
        simp only [h2, false_and, if_false]
      · rw [if_neg h1]
        have c1 : ¬ x.kind = 1 := fun h => h1 (.inl h)
        have c2 : ¬ x.kind = 2 := fun h => h1 (.inr h)
        simp only [c1, c2, false_and, or_self, if_false]
        by_cases h2 : x.kind = 3 ∨ x.kind = 19 ∨ x.kind = 20 ∨ x.kind = 22
        · rw [if_pos h2]
        · simp only [h2, false_and, if_false]
    rw [exW, exW, hh]
    have e1 : (exB (d + 1) x).kind = x.kind := rfl
    have e5 : (exB (d + 1) x).kids = x.kids.map (exB d) := rfl
    rw [e1, e5, runs_map (exW_bare d)]

theorem bodyOf_map {f : St → Nat → Except Int Nat} {g : St → St} (h : ∀ a n, f (g a) n = f a n) (l : List St) (n : Nat) : bodyOf f (l.map g) n = bodyOf f l n := by
  unfold bodyOf
  rw [List.length_map, runs_map h]

theorem stW_bare : ∀ (d : Nat) (s : St) (n : Nat), stW d (stB d s) n = stW d s n
  | 0, _, _ => rfl
  | d + 1, s, n => by
    have e1 : (stB (d + 1) s).kind = s.kind := rfl
    have e2 : (stB (d + 1) s).name = if s.kind = 1 ∨ s.kind = 2 ∨ s.kind = 7 then s.name else ⟨#[]⟩ := rfl
    have e3 : (stB (d + 1) s).x = if s.kind = 6 then ⟨0, 0, ⟨#[]⟩, []⟩ else exB d s.x := rfl
    have e4 : (stB (d + 1) s).body = if s.kind = 3 ∨ s.kind = 4 then s.body.map (stB d) else [] := rfl
    have e5 : (stB (d + 1) s).els = if s.kind = 3 then s.els.map (stB d) else [] := rfl
    have ht : ∀ m, stTail (stW d) (stB (d + 1) s) m = stTail (stW d) s m := by
      intro m
      unfold stTail
      rw [e1, e4, e5]
      by_cases h34 : s.kind = 3 ∨ s.kind = 4
      · rw [if_pos h34, if_pos h34, if_pos h34, bodyOf_map (stW_bare d)]
        cases bodyOf (stW d) s.body m with
        | error e => rfl
        | ok m2 =>
          simp only
          by_cases h3 : s.kind = 3
          · rw [if_pos h3, if_pos h3, if_pos h3, bodyOf_map (stW_bare d)]
          · rw [if_neg h3, if_neg h3]
      · rw [if_neg h34, if_neg h34]
    rw [stW, stW, e1, e2, e3]
    by_cases h6 : s.kind = 6
    · have h1 : ¬ (s.kind = 1 ∨ s.kind = 2 ∨ s.kind = 7) := by omega
      simp only [if_pos h6, h1, false_and, if_false]
    · simp only [if_neg h6]
      rw [exW_bare d]
      simp only [ht]
      by_cases h1 : s.kind = 1 ∨ s.kind = 2 ∨ s.kind = 7
      · rw [if_pos h1]
      · simp only [h1, false_and, if_false]

theorem tyW_bare (t : Ty) : tyW (tyB t) = tyW t := by
  unfold tyW tyB
  simp only
  by_cases h : t.kind = 3
  · rw [if_pos h]
  · simp only [h, false_and, if_false]
theorem pmsW_bare : ∀ l : List Pm, pmsW (l.map pmB) = pmsW l
  | [] => rfl
  | p :: l => by
    rw [List.map_cons, pmsW, pmsW, pmsW_bare l]
    have e1 : (pmB p).name = p.name := rfl
    have e2 : (pmB p).ty = tyB p.ty := rfl
    rw [e1, e2, tyW_bare]
theorem dfW_bare (d : Df) (n : Nat) : dfW (dfB d) n = dfW d n := by
  have hh : dfHead (dfB d) n = dfHead d n := by
    unfold dfHead dfB
    simp only
    by_cases h1 : d.kind = 1
    · have a1 : ¬ d.kind = 2 := by omega
      have a2 : ¬ d.kind = 3 := by omega
      have a3 : ¬ d.kind = 4 := by omega
      simp only [a1, a2, a3, or_self, false_and, if_false, tyW_bare, if_pos h1]
    · by_cases h23 : d.kind = 2 ∨ d.kind = 3
      · have a3 : ¬ d.kind = 4 := by omega
        rw [if_pos h23, List.length_map, pmsW_bare]
        simp only [a3, if_false, tyW_bare, h1, false_and]
        by_cases h3 : d.kind = 3
        · rw [if_pos h3, tyW_bare]
        · simp only [h3, false_and, if_false]
      · have a1 : ¬ d.kind = 2 := by omega
        have a2 : ¬ d.kind = 3 := by omega
        by_cases h4 : d.kind = 4
        · have a4 : ¬ d.kind ≠ 4 := by omega
          simp only [a1, a2, h1, a4, or_self, false_and, if_false]
        · simp only [a1, a2, h1, h4, or_self, false_and, if_false, tyW_bare]
  unfold dfW
  rw [hh]
  have e1 : (dfB d).kind = d.kind := rfl
  have e2 : (dfB d).body = if d.kind = 1 then [] else d.body.map (stB 39) := rfl
  rw [e1, e2]
  by_cases h1 : d.kind = 1
  · rw [if_pos h1, if_pos h1]
  · rw [if_neg h1, if_neg h1, if_neg h1]
    unfold bodyW
    rw [bodyOf_map (stW_bare 39)]
theorem defsW_bare : ∀ (l : List Df) (i n : Nat), defsW (l.map dfB) i n = defsW l i n
  | [], _, _ => rfl
  | d :: l, i, n => by
    rw [List.map_cons, defsW, defsW, dfW_bare]
    cases dfW d n with
    | error e => rfl
    | ok m => exact defsW_bare l (i + 1) m
theorem wrongL_bare (l : List Df) : wrongL (l.map dfB) = wrongL l := by
  unfold wrongL
  rw [List.length_map, defsW_bare]

end Sy

/-- What Print writes of a right program, if it is not too long. -/
def joinP (ds : List Sy.Df) : ByteArray := ⟨(Lib.join ((Sy.progT ds).map (·.data.toList)) [32]).toArray⟩

/-- WHAT IS WRITTEN IS READ. -/
theorem read_print {ds : List Sy.Df} (hw : (Sy.wrongL ds).1 = 0) (hz : ∀ d n e, Sy.dfW d n = .error e → e ≠ 0) (hm : (joinP ds).size ≤ 6000) : readL (joinP ds) = (ds.map Sy.dfB, 0, 0) := by
  have hn : ds.length ≤ 30 := by
    unfold Sy.wrongL at hw
    split at hw
    · simp at hw
    · omega
  have hd : ∀ d ∈ ds, Sy.DfOk d := by
    unfold Sy.wrongL at hw
    rw [if_neg (by omega)] at hw
    exact Sy.defs_ok hw hz
  obtain ⟨h0, h1⟩ := Lx.lex_words (Sy.progT ds) (joinP ds) (by unfold joinP; simp) (Sy.prog_words hd) hm
  unfold readL
  rw [if_neg (by simpa using h0), Rp.program_ok hd hn h1]
  simp only
  rw [Sy.wrongL_bare, if_neg (by simpa using hw)]

end Go.Proofs.YtlnikpcoejpknaaGreatDoor

/- What is read is bare. -/
namespace Go.Proofs.YtlnikpcoejpknaaGreatDoor
open Go.RowKit
namespace Rp

/-- What is read satisfies P. -/
def Rs {α : Type} (P : α → Prop) (r : Res α) : Prop := ∀ q x, r = .ok (q, x) → P x

theorem Rs.ok {α : Type} {P : α → Prop} {q : Nat} {x : α} (h : P x) : Rs P (.ok (q, x) : Res α) := fun _ _ e => by
  simp only [Except.ok.injEq, Prod.mk.injEq] at e
  rw [← e.2]; exact h
theorem Rs.err {α : Type} {P : α → Prop} (e : Int × Nat) : Rs P (.error e : Res α) := fun _ _ h => by simp at h
theorem Rs.any {α : Type} (r : Res α) : Rs (fun _ => True) r := fun _ _ _ => trivial
theorem Rs.andThen {α β : Type} {P : α → Prop} {Q : β → Prop} {r : Res α} {f : Nat → α → Res β} (h1 : Rs P r) (h2 : ∀ q x, P x → Rs Q (f q x)) : Rs Q (Rp.andThen r f) := by
  intro q y h
  obtain ⟨q1, x, e1, e2⟩ := ok_andThen h
  exact h2 q1 x (h1 q1 x e1) q y e2
theorem Rs.ite {α : Type} {P : α → Prop} {c : Prop} [Decidable c] {a b : Res α} (h1 : Rs P a) (h2 : Rs P b) : Rs P (if c then a else b) := by split <;> assumption
/-- An expression with what its kind has alone. -/
def BEx (x : Sy.Ex) : Prop := ∀ d, Sy.exB d x = x
theorem map_same {α : Type} {f : α → α} : ∀ {l : List α}, (∀ a ∈ l, f a = a) → l.map f = l
  | [], _ => rfl
  | a :: l, h => by rw [List.map_cons, h a (by simp), map_same (fun b hb => h b (List.mem_cons_of_mem _ hb))]
theorem bex {k n : Int} {s : ByteArray} {ks : List Sy.Ex} (h1 : k = 1 ∨ k = 2 ∨ n = 0) (h2 : k = 3 ∨ k = 19 ∨ k = 20 ∨ k = 22 ∨ s = ⟨#[]⟩) (h3 : ∀ y ∈ ks, BEx y) : BEx ⟨k, n, s, ks⟩
  | 0 => rfl
  | d + 1 => by
    rw [Sy.exB]
    simp only
    rw [map_same (fun y hy => h3 y hy d)]
    congr 1
    · by_cases h : k = 1 ∨ k = 2
      · rw [if_pos h]
      · rw [if_neg h]
        rcases h1 with h1 | h1 | h1
        · exact absurd (.inl h1) h
        · exact absurd (.inr h1) h
        · exact h1.symm
    · by_cases h : k = 3 ∨ k = 19 ∨ k = 20 ∨ k = 22
      · rw [if_pos h]
      · rw [if_neg h]
        rcases h2 with h2 | h2 | h2 | h2 | h2
        · exact absurd (.inl h2) h
        · exact absurd (.inr (.inl h2)) h
        · exact absurd (.inr (.inr (.inl h2))) h
        · exact absurd (.inr (.inr (.inr h2))) h
        · exact h2.symm
abbrev BExs (l : List Sy.Ex) : Prop := ∀ y ∈ l, BEx y
theorem bexs_one {x : Sy.Ex} (h : BEx x) : BExs [x] := fun y hy => by rw [List.mem_singleton.1 hy]; exact h
theorem bexs_two {x z : Sy.Ex} (h : BEx x) (k : BEx z) : BExs [x, z] := fun y hy => by
  simp only [List.mem_cons, List.not_mem_nil, or_false] at hy
  rcases hy with rfl | rfl
  · exact h
  · exact k
section
variable {l : List Lx.Tk} {en : Nat}

theorem loop_b {next : Nat → Res Sy.Ex} (hn : ∀ p, Rs BEx (next p)) (level : Int) : ∀ (f : Nat) (x : Sy.Ex) (p : Nat), BEx x → Rs BEx (loop l en next level f x p)
  | 0, _, _, hx => Rs.ok hx
  | f + 1, x, p, hx => by
    rw [loop]
    exact Rs.ite (Rs.ok hx) (Rs.andThen (hn _) fun q y hy => Rs.ite (Rs.ok (bex (.inr (.inr rfl)) (.inr (.inr (.inr (.inr rfl)))) (bexs_two hx hy))) (loop_b hn level f _ _ (bex (.inr (.inr rfl)) (.inr (.inr (.inr (.inr rfl)))) (bexs_two hx hy))))
theorem from_b {ah : Nat → Res Sy.Ex} (ha : ∀ p, Rs BEx (ah p)) : ∀ k p, Rs BEx (from' l en ah k p)
  | 0, p => ha p
  | k + 1, p => by rw [from']; exact Rs.andThen (from_b ha k p) (fun q x hx => loop_b (from_b ha k) _ _ _ _ hx)
theorem items_b {α : Type} {P : α → Prop} {bg : Lx.Tk → Bool} {one : Nat → Res α} (ho : ∀ p, Rs P (one p)) : ∀ (f : Nat) (out : List α) (p : Nat), (∀ y ∈ out, P y) → Rs (fun ys => ∀ y ∈ ys, P y) (items l en bg one f out p)
  | 0, _, _, h => Rs.ok h
  | f + 1, out, p, h => by
    rw [items]
    have hs : ∀ x, P x → ∀ y ∈ out ++ [x], P y := fun x hx y hy => by
      rcases List.mem_append.1 hy with hy | hy
      · exact h y hy
      · rw [List.mem_singleton.1 hy]; exact hx
    cases hl : limitL bg (out.length : Nat) 6 (pk l p en) p with
    | error e => exact Rs.err e
    | ok z => exact Rs.andThen (ho p) fun q x hx => Rs.ite (Rs.ok (hs x hx)) (Rs.andThen (Rs.any _) fun q2 _ _ => items_b ho f _ _ (hs x hx))
theorem list_b {α : Type} {P : α → Prop} {bg : Lx.Tk → Bool} {one : Nat → Res α} (ho : ∀ p, Rs P (one p)) (p : Nat) : Rs (fun ys => ∀ y ∈ ys, P y) (list l en bg one p) :=
  Rs.andThen (Rs.any _) fun q _ _ => Rs.ite (Rs.ok (fun y hy => by cases hy)) (items_b ho _ _ _ (fun y hy => by cases hy))
theorem expr_b {d : Nat} {prev : Nat → Res Sy.Ex} (h : ∀ p, Rs BEx (prev p)) (p : Nat) : Rs BEx (expr l en d prev p) := Rs.ite (Rs.err _) (from_b h 5 p)
theorem turned_b {d : Nat} {prev : Nat → Res Sy.Ex} (h : ∀ p, Rs BEx (prev p)) (k : Int) (p : Nat) : Rs BEx (turned l en d prev k p) := Rs.ite (Rs.err _) (Rs.andThen (h p) fun _ _ hy => Rs.ok (bex (.inr (.inr rfl)) (.inr (.inr (.inr (.inr rfl)))) (bexs_one hy)))
theorem kids_b {d : Nat} {prev : Nat → Res Sy.Ex} (h : ∀ p, Rs BEx (prev p)) (p : Nat) : Rs BExs (kids l en d prev p) := list_b (expr_b h) p
theorem receiving_b (p : Nat) : Rs BEx (receiving l en p) := Rs.andThen (Rs.any _) fun _ _ _ => Rs.andThen (Rs.any _) fun _ _ _ => Rs.andThen (Rs.any _) fun _ _ _ => Rs.ok (bex (.inr (.inr rfl)) (.inr (.inr (.inl rfl))) (fun y hy => by cases hy))
theorem named_b {d : Nat} {prev : Nat → Res Sy.Ex} (h : ∀ p, Rs BEx (prev p)) (p : Nat) : Rs BEx (named l en d prev p) := Rs.andThen (Rs.any _) fun _ _ _ => Rs.ite (Rs.andThen (kids_b h _) fun _ ks hk => Rs.ok (bex (.inr (.inr rfl)) (.inr (.inl rfl)) hk)) (Rs.ok (bex (.inr (.inr rfl)) (.inl rfl) (fun y hy => by cases hy)))
theorem exactly1_b {d : Nat} {prev : Nat → Res Sy.Ex} (h : ∀ p, Rs BEx (prev p)) (p : Nat) : Rs BExs (exactly1 l en d prev p) := Rs.andThen (Rs.any _) fun _ _ _ => Rs.andThen (expr_b h _) fun _ _ hx => Rs.andThen (Rs.any _) fun _ _ _ => Rs.ok (bexs_one hx)
theorem exactly2_b {d : Nat} {prev : Nat → Res Sy.Ex} (h : ∀ p, Rs BEx (prev p)) (p : Nat) : Rs BExs (exactly2 l en d prev p) := Rs.andThen (Rs.any _) fun _ _ _ => Rs.andThen (expr_b h _) fun _ _ hx => Rs.andThen (Rs.any _) fun _ _ _ => Rs.andThen (expr_b h _) fun _ _ hy => Rs.andThen (Rs.any _) fun _ _ _ => Rs.ok (bexs_two hx hy)
theorem bexs_nil : BExs [] := fun y hy => by cases hy
theorem piece_b {d : Nat} {prev : Nat → Res Sy.Ex} (h : ∀ p, Rs BEx (prev p)) (p : Nat) : Rs BEx (piece l en d prev p) := by
  unfold piece
  have e : ∀ {k : Int} {s : ByteArray} {ks : List Sy.Ex}, (k = 3 ∨ k = 19 ∨ k = 20 ∨ k = 22 ∨ s = ⟨#[]⟩) → BExs ks → BEx ⟨k, 0, s, ks⟩ := fun h2 h3 => bex (.inr (.inr rfl)) h2 h3
  exact Rs.ite (Rs.ok (bex (.inl rfl) (.inr (.inr (.inr (.inr rfl)))) bexs_nil)) <|
    Rs.ite (Rs.andThen (expr_b h _) fun _ x hx => Rs.andThen (Rs.any _) fun _ _ _ => Rs.ok hx) <|
    Rs.ite (Rs.ok (bex (.inr (.inl rfl)) (.inr (.inr (.inr (.inr rfl)))) bexs_nil)) <|
    Rs.ite (Rs.ok (bex (.inr (.inl rfl)) (.inr (.inr (.inr (.inr rfl)))) bexs_nil)) <|
    Rs.ite (Rs.andThen (Rs.any _) fun _ s _ => Rs.andThen (kids_b h _) fun _ ks hk => Rs.ok (e (.inr (.inr (.inr (.inl rfl)))) hk)) <|
    Rs.ite (receiving_b _) <|
    Rs.ite (Rs.andThen (exactly1_b h _) fun _ ks hk => Rs.ok (e (.inr (.inr (.inr (.inr rfl)))) hk)) <|
    Rs.ite (Rs.andThen (exactly1_b h _) fun _ ks hk => Rs.ok (e (.inr (.inr (.inr (.inr rfl)))) hk)) <|
    Rs.ite (Rs.andThen (exactly2_b h _) fun _ ks hk => Rs.ok (e (.inr (.inr (.inr (.inr rfl)))) hk)) (named_b h _)
theorem aheadS_b {d : Nat} {prev : Nat → Res Sy.Ex} (h : ∀ p, Rs BEx (prev p)) (p : Nat) : Rs BEx (aheadS l en d prev p) := Rs.ite (turned_b h 4 _) (Rs.ite (turned_b h 5 _) (piece_b h _))
theorem ahead_b : ∀ (d p : Nat), Rs BEx (ahead l en d p)
  | 0, p => aheadS_b (fun _ => Rs.err _) p
  | d + 1, p => aheadS_b (ahead_b d) p
theorem prev_b (d p : Nat) : Rs BEx (prevOf l en d p) := by
  cases d with
  | zero => exact Rs.err _
  | succ d => exact ahead_b d p
theorem ex_b (d p : Nat) : Rs BEx (ex l en d p) := expr_b (prev_b d) p

/-- A statement with what its kind has alone. -/
def BSt (s : Sy.St) : Prop := ∀ d, Sy.stB d s = s
abbrev BSts (l : List Sy.St) : Prop := ∀ y ∈ l, BSt y
theorem bst {k : Int} {n : ByteArray} {x : Sy.Ex} {b e : List Sy.St} (h1 : k = 1 ∨ k = 2 ∨ k = 7 ∨ n = ⟨#[]⟩) (h2 : if k = 6 then x = ⟨0, 0, ⟨#[]⟩, []⟩ else BEx x) (h3 : BSts b) (h4 : BSts e) (h5 : k = 3 ∨ k = 4 ∨ b = []) (h6 : k = 3 ∨ e = []) : BSt ⟨k, n, x, b, e⟩
  | 0 => rfl
  | d + 1 => by
    rw [Sy.stB]
    simp only
    congr 1
    · by_cases h : k = 1 ∨ k = 2 ∨ k = 7
      · rw [if_pos h]
      · rw [if_neg h]
        rcases h1 with h1 | h1 | h1 | h1
        · exact absurd (.inl h1) h
        · exact absurd (.inr (.inl h1)) h
        · exact absurd (.inr (.inr h1)) h
        · exact h1.symm
    · by_cases h : k = 6
      · rw [if_pos h] at h2 ⊢; exact h2.symm
      · rw [if_neg h] at h2 ⊢; exact h2 d
    · by_cases h : k = 3 ∨ k = 4
      · rw [if_pos h]; exact map_same (fun y hy => h3 y hy d)
      · rw [if_neg h]
        rcases h5 with h5 | h5 | h5
        · exact absurd (.inl h5) h
        · exact absurd (.inr h5) h
        · exact h5.symm
    · by_cases h : k = 3
      · rw [if_pos h]; exact map_same (fun y hy => h4 y hy d)
      · rw [if_neg h]
        rcases h6 with h6 | h6
        · exact absurd h6 h
        · exact h6.symm
theorem bsts_nil : BSts [] := fun y hy => by cases hy

theorem setting_b (d p : Nat) (k : Int) (hk : k = 1 ∨ k = 2) : Rs BSt (setting l en d k p) := Rs.andThen (Rs.any _) fun _ _ _ => Rs.andThen (Rs.any _) fun _ _ _ => Rs.andThen (ex_b _ _) fun _ x hx => Rs.andThen (Rs.any _) fun _ _ _ => Rs.ok (bst (by omega) (by rw [if_neg (by omega)]; exact hx) bsts_nil bsts_nil (.inr (.inr rfl)) (.inr rfl))
theorem saying_b (d p : Nat) (k : Int) (hk : k ≠ 6) : Rs BSt (saying l en d k p) := Rs.andThen (ex_b _ _) fun _ x hx => Rs.andThen (Rs.any _) fun _ _ _ => Rs.ok (bst (.inr (.inr (.inr rfl))) (by rw [if_neg hk]; exact hx) bsts_nil bsts_nil (.inr (.inr rfl)) (.inr rfl))
theorem sending_b (d p : Nat) : Rs BSt (sending l en d p) := Rs.andThen (Rs.any _) fun _ _ _ => Rs.andThen (ex_b _ _) fun _ _ hx => Rs.andThen (Rs.any _) fun _ _ _ => Rs.ok (bst (.inr (.inr (.inl rfl))) hx bsts_nil bsts_nil (.inr (.inr rfl)) (.inr rfl))
theorem stopping_b (p : Nat) : Rs BSt (stopping l en p) := Rs.andThen (Rs.any _) fun _ _ _ => Rs.ok (bst (.inr (.inr (.inr rfl))) rfl bsts_nil bsts_nil (.inr (.inr rfl)) (.inr rfl))
theorem looping_b {d : Nat} {bd : Nat → Res (List Sy.St)} (hb : ∀ p, Rs BSts (bd p)) (p : Nat) : Rs BSt (looping l en d bd p) := Rs.andThen (ex_b _ _) fun _ _ hx => Rs.andThen (hb _) fun _ _ hb' => Rs.ok (bst (.inr (.inr (.inr rfl))) hx hb' bsts_nil (.inr (.inl rfl)) (.inr rfl))
theorem choice_b {d : Nat} {bd : Nat → Res (List Sy.St)} (hb : ∀ p, Rs BSts (bd p)) (p : Nat) : Rs BSt (choice l en d bd p) := Rs.andThen (ex_b _ _) fun _ _ hx => Rs.andThen (hb _) fun _ _ hb' => Rs.ite (Rs.andThen (hb _) fun _ _ he => Rs.ok (bst (.inr (.inr (.inr rfl))) hx hb' he (.inl rfl) (.inl rfl))) (Rs.ok (bst (.inr (.inr (.inr rfl))) hx hb' bsts_nil (.inl rfl) (.inl rfl)))
theorem stat_b {d : Nat} {bd : Nat → Res (List Sy.St)} (hb : ∀ p, Rs BSts (bd p)) (p : Nat) : Rs BSt (stat l en d bd p) :=
  Rs.ite (setting_b _ _ _ (.inl rfl)) <| Rs.ite (choice_b hb _) <| Rs.ite (looping_b hb _) <| Rs.ite (stopping_b _) <| Rs.ite (sending_b _ _) <| Rs.ite (saying_b _ _ _ (by decide)) <| Rs.ite (saying_b _ _ _ (by decide)) <| Rs.ite (saying_b _ _ _ (by decide)) (setting_b _ _ _ (.inr rfl))
theorem stats_b {st : Nat → Res Sy.St} (hs : ∀ p, Rs BSt (st p)) : ∀ (f : Nat) (out : List Sy.St) (p : Nat), BSts out → Rs BSts (stats l en st f out p)
  | 0, _, _, h => Rs.ok h
  | f + 1, out, p, h => by
    rw [stats]
    refine Rs.ite (Rs.ok h) ?_
    cases hl : limitL bgSt (out.length : Nat) 50 (pk l p en) p with
    | error e => exact Rs.err e
    | ok z => exact Rs.andThen (hs p) fun q x hx => stats_b hs f _ _ (fun y hy => by
        rcases List.mem_append.1 hy with hy | hy
        · exact h y hy
        · rw [List.mem_singleton.1 hy]; exact hx)
theorem body_b : ∀ (d p : Nat), Rs BSts (body l en d p)
  | 0, _ => Rs.andThen (Rs.any _) fun _ _ _ => Rs.err _
  | d + 1, _ => Rs.andThen (Rs.any _) fun _ _ _ => stats_b (stat_b (body_b d)) _ _ _ bsts_nil

def BTy (t : Sy.Ty) : Prop := Sy.tyB t = t
theorem typ_b (p : Nat) : Rs BTy (typ l en p) := by
  unfold typ
  split
  · refine Rs.ok ?_
    unfold tyAt BTy Sy.tyB
    split
    · rfl
    split
    · rfl
    · rfl
  · exact Rs.err _
theorem param_b (p : Nat) : Rs (fun x => Sy.pmB x = x) (param l en p) := Rs.andThen (Rs.any _) fun _ s _ => Rs.andThen (typ_b _) fun _ t ht => Rs.ok (by unfold Sy.pmB; simp only; rw [ht])
theorem params_b (p : Nat) : Rs (fun xs => ∀ x ∈ xs, Sy.pmB x = x) (params l en p) := list_b param_b p
theorem df_b (p : Nat) : Rs (fun d => Sy.dfB d = d) (df l en p) := by
  unfold df
  refine Rs.ite ?_ (Rs.ite ?_ (Rs.ite ?_ ?_))
  · exact Rs.andThen (Rs.any _) fun _ _ _ => Rs.andThen (Rs.any _) fun _ s _ => Rs.andThen (typ_b _) fun _ t ht => Rs.andThen (Rs.any _) fun _ n _ => Rs.andThen (Rs.any _) fun _ _ _ => Rs.ok (by
      unfold Sy.dfB; simp only; rw [show Sy.tyB t = t from ht]; rfl)
  · exact Rs.andThen (Rs.any _) fun _ _ _ => Rs.andThen (Rs.any _) fun _ s _ => Rs.andThen (params_b _) fun _ ps hp => Rs.andThen (typ_b _) fun _ t ht => Rs.andThen (body_b _ _) fun _ b hb => Rs.ok (by
      unfold Sy.dfB; simp only; rw [show Sy.tyB t = t from ht, map_same hp, map_same (fun y hy => hb y hy 39)]; rfl)
  · exact Rs.andThen (Rs.any _) fun _ _ _ => Rs.andThen (Rs.any _) fun _ s _ => Rs.andThen (params_b _) fun _ ps hp => Rs.andThen (Rs.any _) fun _ _ _ => Rs.andThen (typ_b _) fun _ t ht => Rs.andThen (Rs.any _) fun _ _ _ => Rs.andThen (typ_b _) fun _ u hu => Rs.andThen (body_b _ _) fun _ b hb => Rs.ok (by
      unfold Sy.dfB; simp only; rw [show Sy.tyB t = t from ht, show Sy.tyB u = u from hu, map_same hp, map_same (fun y hy => hb y hy 39)]; rfl)
  · exact Rs.andThen (Rs.any _) fun _ _ _ => Rs.andThen (Rs.any _) fun _ s _ => Rs.andThen (body_b _ _) fun _ b hb => Rs.ok (by
      unfold Sy.dfB; simp only; rw [map_same (fun y hy => hb y hy 39)]; rfl)
theorem dfs_b : ∀ (f : Nat) (out : List Sy.Df) (p : Nat), (∀ d ∈ out, Sy.dfB d = d) → Rs (fun ds => ∀ d ∈ ds, Sy.dfB d = d) (dfs l en f out p)
  | 0, _, _, h => Rs.ok h
  | f + 1, out, p, h => by
    rw [dfs]
    refine Rs.ite (Rs.ok h) ?_
    cases hl : limitL bgDf (out.length : Nat) 30 (pk l p en) p with
    | error e => exact Rs.err e
    | ok z => exact Rs.andThen (df_b p) fun q x hx => dfs_b f _ _ (fun y hy => by
        rcases List.mem_append.1 hy with hy | hy
        · exact h y hy
        · rw [List.mem_singleton.1 hy]; exact hx)
theorem program_b : Rs (fun ds => ds.map Sy.dfB = ds) (program l en) := fun q x h => map_same (dfs_b _ _ _ (fun d hd => by cases hd) q x h)

end
end Rp
end Go.Proofs.YtlnikpcoejpknaaGreatDoor

/- What is wrong with a program is none that is nothing; what it means that a text is a program. -/
namespace Go.Proofs.YtlnikpcoejpknaaGreatDoor
namespace Sy

/-! A fault is none that is nothing. -/
def Nz {α : Type} (f : α → Nat → Except Int Nat) : Prop := ∀ a n e, f a n = .error e → e ≠ 0
theorem runs_nz {α : Type} {f : α → Nat → Except Int Nat} (hf : Nz f) : Nz (runs f)
  | [], n, e, h => by simp [runs] at h
  | a :: l, n, e, h => by
    rw [runs] at h
    cases ha : f a n with
    | error e' => rw [ha] at h; simp only [Except.error.injEq] at h; rw [← h]; exact hf a n e' ha
    | ok j => rw [ha] at h; exact runs_nz hf l j e h
theorem exW_nz : ∀ d, Nz (exW d)
  | 0 => fun x n e h => by simp only [exW, Except.error.injEq] at h; omega
  | d + 1 => fun x n e h => by
    rw [exW] at h
    split at h
    · rename_i h0; simp only [Except.error.injEq] at h; rw [← h]; exact h0
    · split at h
      · rename_i h0; simp only [Except.error.injEq] at h; rw [← h]; exact h0
      · exact runs_nz (exW_nz d) _ _ _ h
theorem bodyOf_nz {f : St → Nat → Except Int Nat} (hf : Nz f) : Nz (bodyOf f) := fun l n e h => by
  unfold bodyOf at h
  split at h
  · simp only [Except.error.injEq] at h; omega
  · exact runs_nz hf _ _ _ h
theorem stW_nz : ∀ d, Nz (stW d)
  | 0 => fun x n e h => by simp only [stW, Except.error.injEq] at h; omega
  | d + 1 => fun x n e h => by
    rw [stW] at h
    split at h
    · rename_i h0; simp only [Except.error.injEq] at h; rw [← h]; exact h0
    · split at h
      · simp only [Except.error.injEq] at h; omega
      · split at h
        · simp at h
        · cases he : exW d x.x (n + 1) with
          | error e' => rw [he] at h; simp only [Except.error.injEq] at h; rw [← h]; exact exW_nz d _ _ _ he
          | ok j =>
            rw [he] at h
            simp only [stTail] at h
            split at h
            · cases hb : bodyOf (stW d) x.body j with
              | error e' => rw [hb] at h; simp only [Except.error.injEq] at h; rw [← h]; exact bodyOf_nz (stW_nz d) _ _ _ hb
              | ok j2 =>
                rw [hb] at h
                simp only at h
                split at h
                · exact bodyOf_nz (stW_nz d) _ _ _ h
                · simp at h
            · simp at h
theorem dfW_nz : Nz dfW := fun x n e h => by
  unfold dfW at h
  split at h
  · rename_i h0; simp only [Except.error.injEq] at h; rw [← h]; exact h0
  · split at h
    · simp at h
    · exact bodyOf_nz (stW_nz 39) _ _ _ h

end Sy
end Go.Proofs.YtlnikpcoejpknaaGreatDoor

