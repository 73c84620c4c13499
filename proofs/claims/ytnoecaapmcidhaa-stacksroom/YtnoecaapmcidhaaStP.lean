/- Stacks as plain data: what each doing makes of the words and of the room; nothing of the program. -/
import Derived.Test.YtnoecaapmcidhaaRows
namespace Go.Proofs.Ytnoecaapmcidhaa
namespace Sk

structure Op where
  kind : Int
  n : Int
  v : Int

/-- What is wrong with a doing, where there are c words. -/
def err (most c : Nat) (o : Op) : Nat :=
  if o.kind = 1 then (if c = most then 4 else 0)
  else if o.kind = 2 then (if o.n < 0 ∨ (c : Int) < o.n then 3 else 0)
  else if o.kind = 3 then (if o.n < 0 ∨ (c : Int) ≤ o.n then 3 else 0)
  else 1

/-- The words behind it. -/
def wds (ws : List Int) (o : Op) : List Int :=
  if o.kind = 1 then ws ++ [o.v]
  else if o.kind = 2 then ws.take (ws.length - o.n.toNat)
  else if o.kind = 3 then ws.set o.n.toNat o.v
  else ws

/-- The room behind it. -/
def rm (mn most r c : Nat) (o : Op) : Nat :=
  if o.kind = 1 then (if c = r then min (2 * r) most else r)
  else if o.kind = 2 then (if c - o.n.toNat ≤ r / 4 ∧ mn < r then max (r / 2) mn else r)
  else r

/-- All doings, from where there are the words ws, the room r, and rs were the rooms so far. -/
def go (mn most : Nat) : List Op → Nat → List Int → Nat → List Nat → List Int × List Nat × Nat × Nat
  | [], _, ws, _, rs => (ws, rs, 0, 0)
  | o :: l, i, ws, r, rs => if err most ws.length o = 0 then go mn most l (i + 1) (wds ws o) (rm mn most r ws.length o) (rs ++ [rm mn most r ws.length o]) else ([], [], err most ws.length o, i)

def play (mn most : Int) (l : List Op) : List Int × List Nat × Nat × Nat :=
  if mn < 1 ∨ most < mn ∨ 400 < most then ([], [], 3, 0) else go mn.toNat most.toNat l 0 [] mn.toNat []

theorem go_step {mn most : Nat} {L : List Op} {k : Nat} {o : Op} (ho : L[k]? = some o) (ws : List Int) (r : Nat) (rs : List Nat) (h : err most ws.length o = 0) :
    go mn most (L.drop k) k ws r rs = go mn most (L.drop (k + 1)) (k + 1) (wds ws o) (rm mn most r ws.length o) (rs ++ [rm mn most r ws.length o]) := by
  obtain ⟨hk, rfl⟩ := List.getElem?_eq_some_iff.1 ho
  rw [List.drop_eq_getElem_cons hk, go, if_pos h]
theorem go_bad {mn most : Nat} {L : List Op} {k : Nat} {o : Op} (ho : L[k]? = some o) (ws : List Int) (r : Nat) (rs : List Nat) (h : err most ws.length o ≠ 0) :
    go mn most (L.drop k) k ws r rs = ([], [], err most ws.length o, k) := by
  obtain ⟨hk, rfl⟩ := List.getElem?_eq_some_iff.1 ho
  rw [List.drop_eq_getElem_cons hk, go, if_neg h]
theorem go_end {mn most : Nat} {L : List Op} {k : Nat} (hk : L.length ≤ k) (ws : List Int) (r : Nat) (rs : List Nat) : go mn most (L.drop k) k ws r rs = (ws, rs, 0, 0) := by
  rw [List.drop_of_length_le hk, go]

/-- What always holds of words and room. -/
def Fits (mn most : Nat) (c r : Nat) : Prop := c ≤ r ∧ r ≤ most ∧ mn ≤ r ∧ 1 ≤ mn ∧ most ≤ 400

theorem fits_next {mn most r : Nat} {ws : List Int} {o : Op} (h : Fits mn most ws.length r) (he : err most ws.length o = 0) : Fits mn most (wds ws o).length (rm mn most r ws.length o) := by
  obtain ⟨h1, h2, h3, h4, h5⟩ := h
  unfold err at he
  unfold Fits wds rm
  by_cases k1 : o.kind = 1
  · simp only [if_pos k1] at he ⊢
    by_cases hm : ws.length = most
    · rw [if_pos hm] at he; omega
    · rw [if_neg hm] at he
      have e1 : (ws ++ [o.v]).length = ws.length + 1 := by simp
      rw [e1]
      by_cases hr : ws.length = r
      · rw [if_pos hr]; omega
      · rw [if_neg hr]; omega
  · simp only [if_neg k1] at he ⊢
    by_cases k2 : o.kind = 2
    · simp only [if_pos k2] at he ⊢
      have e1 : (ws.take (ws.length - o.n.toNat)).length = ws.length - o.n.toNat := by simp
      rw [e1]
      by_cases hc : ws.length - o.n.toNat ≤ r / 4 ∧ mn < r
      · rw [if_pos hc]; omega
      · rw [if_neg hc]; omega
    · simp only [if_neg k2] at he ⊢
      by_cases k3 : o.kind = 3
      · simp only [if_pos k3] at he ⊢
        have e1 : (ws.set o.n.toNat o.v).length = ws.length := by simp
        rw [e1]; omega
      · simp only [if_neg k3] at he ⊢; omega

/-- Faults tell no words and no rooms. -/
theorem go_none {mn most : Nat} : ∀ (l : List Op) (i : Nat) (ws : List Int) (r : Nat) (rs : List Nat), (go mn most l i ws r rs).2.2.1 ≠ 0 → (go mn most l i ws r rs).1 = [] ∧ (go mn most l i ws r rs).2.1 = []
  | [], _, _, _, _, h => by simp [go] at h
  | o :: l, i, ws, r, rs, h => by
    rw [go] at h ⊢
    by_cases he : err most ws.length o = 0
    · rw [if_pos he] at h ⊢; exact go_none l _ _ _ _ h
    · rw [if_neg he]; exact ⟨rfl, rfl⟩
theorem play_none {mn most : Int} {l : List Op} (h : (play mn most l).2.2.1 ≠ 0) : (play mn most l).1 = [] ∧ (play mn most l).2.1 = [] := by
  unfold play at *
  split
  · exact ⟨rfl, rfl⟩
  · rename_i hc; rw [if_neg hc] at h; exact go_none _ _ _ _ _ h

/-- How many words there are at most. -/
theorem go_most {mn most : Nat} : ∀ (l : List Op) (i : Nat) (ws : List Int) (r : Nat) (rs : List Nat), Fits mn most ws.length r → (go mn most l i ws r rs).1.length ≤ most
  | [], _, ws, r, rs, h => by unfold Fits at h; simp [go]; omega
  | o :: l, i, ws, r, rs, h => by
    rw [go]
    by_cases he : err most ws.length o = 0
    · rw [if_pos he]; exact go_most l _ _ _ _ (fits_next h he)
    · rw [if_neg he]; simp

/-- ROOM IS NO OBSERVER. -/
theorem go_room {mn mn' most : Nat} : ∀ (l : List Op) (i : Nat) (ws : List Int) (r r' : Nat) (rs rs' : List Nat),
    (go mn most l i ws r rs).1 = (go mn' most l i ws r' rs').1 ∧ (go mn most l i ws r rs).2.2 = (go mn' most l i ws r' rs').2.2
  | [], _, _, _, _, _, _ => ⟨rfl, rfl⟩
  | o :: l, i, ws, r, r', rs, rs' => by
    rw [go, go]
    by_cases he : err most ws.length o = 0
    · rw [if_pos he, if_pos he]; exact go_room l _ _ _ _ _ _
    · rw [if_neg he, if_neg he]; exact ⟨rfl, rfl⟩

/-- As many rooms as doings. -/
theorem go_count {mn most : Nat} : ∀ (l : List Op) (i : Nat) (ws : List Int) (r : Nat) (rs : List Nat), (go mn most l i ws r rs).2.2.1 = 0 → (go mn most l i ws r rs).2.1.length = rs.length + l.length
  | [], _, _, _, _, _ => by simp [go]
  | o :: l, i, ws, r, rs, h => by
    rw [go] at h ⊢
    by_cases he : err most ws.length o = 0
    · rw [if_pos he] at h ⊢; rw [go_count l _ _ _ _ h]; simp; omega
    · rw [if_neg he] at h; exact absurd h he

/-- One script behind another. -/
theorem go_append {mn most : Nat} : ∀ (l m : List Op) (i : Nat) (ws : List Int) (r : Nat) (rs : List Nat), (go mn most l i ws r rs).2.2.1 = 0 → Fits mn most ws.length r →
    ∃ r' rs', Fits mn most (go mn most l i ws r rs).1.length r' ∧ go mn most (l ++ m) i ws r rs = go mn most m (i + l.length) (go mn most l i ws r rs).1 r' rs'
  | [], m, i, ws, r, rs, _, hf => ⟨r, rs, hf, by simp [go]⟩
  | o :: l, m, i, ws, r, rs, h, hf => by
    rw [List.cons_append, go, go]
    rw [go] at h
    by_cases he : err most ws.length o = 0
    · rw [if_pos he] at h ⊢
      obtain ⟨r', rs', h1, h2⟩ := go_append l m _ _ _ _ h (fits_next hf he)
      refine ⟨r', rs', h1, ?_⟩
      rw [if_pos he, h2, List.length_cons]
      congr 1
      omega
    · rw [if_neg he] at h; exact absurd h he

/-- Pushes. -/
theorem go_push {mn most : Nat} : ∀ (vs : List Int) (m : List Op) (i : Nat) (ws : List Int) (r : Nat) (rs : List Nat), Fits mn most ws.length r → ws.length + vs.length ≤ most →
    ∃ r' rs', Fits mn most (ws ++ vs).length r' ∧ go mn most (vs.map (fun v => ⟨1, 0, v⟩) ++ m) i ws r rs = go mn most m (i + vs.length) (ws ++ vs) r' rs'
  | [], m, i, ws, r, rs, hf, _ => ⟨r, rs, by simpa using hf, by simp⟩
  | v :: vs, m, i, ws, r, rs, hf, hl => by
    simp only [List.length_cons] at hl
    have he : err most ws.length ⟨1, 0, v⟩ = 0 := by simp [err]; omega
    have hw : wds ws ⟨1, 0, v⟩ = ws ++ [v] := by simp [wds]
    rw [List.map_cons, List.cons_append, go, if_pos he]
    have hf2 := fits_next hf he
    rw [hw] at hf2
    obtain ⟨r', rs', h1, h2⟩ := go_push vs m (i + 1) (ws ++ [v]) (rm mn most r ws.length ⟨1, 0, v⟩) (rs ++ [rm mn most r ws.length ⟨1, 0, v⟩]) hf2 (by simp; omega)
    refine ⟨r', rs', by simpa using h1, ?_⟩
    rw [hw, h2, List.length_cons, List.append_assoc, List.singleton_append]
    congr 1
    omega

/-- WHAT WAS PUSHED IS POPPED. -/
theorem play_back {mn most : Int} {l : List Op} {vs : List Int} (h : (play mn most l).2.2.1 = 0) (hl : ((play mn most l).1.length + vs.length : Int) ≤ most) :
    (play mn most (l ++ vs.map (fun v => ⟨1, 0, v⟩) ++ [⟨2, vs.length, 0⟩])).2.2.1 = 0 ∧ (play mn most (l ++ vs.map (fun v => ⟨1, 0, v⟩) ++ [⟨2, vs.length, 0⟩])).1 = (play mn most l).1 := by
  unfold play at *
  by_cases hc : mn < 1 ∨ most < mn ∨ 400 < most
  · rw [if_pos hc] at h; simp at h
  · rw [if_neg hc] at h hl
    rw [if_neg hc, if_neg hc]
    have hf : Fits mn.toNat most.toNat ([] : List Int).length mn.toNat := by unfold Fits; simp; omega
    obtain ⟨r1, rs1, hf1, e1⟩ := go_append l (vs.map (fun v => ⟨1, 0, v⟩) ++ [⟨2, vs.length, 0⟩]) 0 [] mn.toNat [] h hf
    rw [← List.append_assoc] at e1
    obtain ⟨r2, rs2, hf2, e2⟩ := go_push vs [⟨2, vs.length, 0⟩] (0 + l.length) _ r1 rs1 hf1 (by omega)
    rw [e1, e2]
    generalize (go mn.toNat most.toNat l 0 [] mn.toNat []).1 = a at *
    have he : err most.toNat (a ++ vs).length ⟨2, vs.length, 0⟩ = 0 := by simp [err]; omega
    rw [go, if_pos he, go]
    refine ⟨rfl, ?_⟩
    simp [wds]

end Sk
end Go.Proofs.Ytnoecaapmcidhaa
