/- Boxes as plain data: what each doing makes of the words, and what comes of it; nothing of the program. -/
import Derived.Test.YtbpebecfnbdckaaRows
namespace Go.Proofs.Ytbpebecfnbdckaa
namespace Ml

structure Op where
  put : Bool
  v : Int

structure Got where
  ok : Bool
  v : Int
deriving DecidableEq

/-- What comes of a doing, where there are the words ws and n places. -/
def got (n : Nat) (ws : List Int) (o : Op) : Got :=
  if o.put = true then ⟨decide (ws.length < n), 0⟩ else match ws with
    | [] => ⟨false, 0⟩
    | x :: _ => ⟨true, x⟩

/-- The words behind it. -/
def wds (n : Nat) (ws : List Int) (o : Op) : List Int :=
  if o.put = true then (if ws.length < n then ws ++ [o.v] else ws) else ws.tail

/-- The first k doings. -/
def upto (n : Nat) (L : List Op) : Nat → List Got × List Int
  | 0 => ([], [])
  | k + 1 => match L[k]? with
    | some o => ((upto n L k).1 ++ [got n (upto n L k).2 o], wds n (upto n L k).2 o)
    | none => upto n L k

def play (n : Int) (L : List Op) : List Got × List Int × Nat :=
  if n < 1 ∨ 20 < n then ([], [], 3) else ((upto n.toNat L L.length).1, (upto n.toNat L L.length).2, 0)

theorem upto_next {n : Nat} {L : List Op} {k : Nat} {o : Op} (h : L[k]? = some o) : upto n L (k + 1) = ((upto n L k).1 ++ [got n (upto n L k).2 o], wds n (upto n L k).2 o) := by
  simp only [upto, h]

theorem wds_len {n : Nat} {ws : List Int} {o : Op} (h : ws.length ≤ n) : (wds n ws o).length ≤ n := by
  unfold wds
  split
  · split
    · simp; omega
    · exact h
  · simp; omega

theorem upto_most {n : Nat} {L : List Op} : ∀ k, (upto n L k).2.length ≤ n
  | 0 => by simp [upto]
  | k + 1 => by
    have ih := upto_most (n := n) (L := L) k
    simp only [upto]
    split
    · exact wds_len ih
    · exact ih

theorem upto_len {n : Nat} {L : List Op} : ∀ k, k ≤ L.length → (upto n L k).1.length = k
  | 0, _ => by simp [upto]
  | k + 1, h => by
    have ih := upto_len (n := n) (L := L) k (by omega)
    rw [upto_next (List.getElem?_eq_getElem (by omega))]
    simp [ih]

/-- What came of each, out of all. -/
theorem upto_get {n : Nat} {L : List Op} {k : Nat} {o : Op} (h : L[k]? = some o) : ∀ m, k < m → m ≤ L.length → (upto n L m).1[k]? = some (got n (upto n L k).2 o)
  | 0, hk, _ => by omega
  | m + 1, hk, hm => by
    have hl := upto_len (n := n) (L := L) m (by omega)
    rw [upto_next (List.getElem?_eq_getElem (show m < L.length by omega))]
    by_cases e : k = m
    · subst e
      have e2 : L[k]'(by omega) = o := (List.getElem?_eq_some_iff.1 h).2
      simp only
      rw [List.getElem?_append_right (by omega), hl, e2]
      simp
    · simp only
      rw [List.getElem?_append_left (by omega)]
      exact upto_get h m (by omega) (by omega)

theorem play_few {n : Int} {L : List Op} {gs : List Got} {ws : List Int} {E : Nat} (h : play n L = (gs, ws, E)) : ws.length ≤ 20 := by
  unfold play at h
  split at h
  · simp at h; rw [h.2.1]; simp
  · simp at h
    have := upto_most (n := n.toNat) (L := L) L.length
    rw [h.2.1] at this
    omega

/-- What was put, and what was taken, of the first k doings. -/
def puts (L : List Op) (G : List Got) : Nat → List Int
  | 0 => []
  | k + 1 => match L[k]?, G[k]? with
    | some o, some g => if o.put = true ∧ g.ok = true then puts L G k ++ [o.v] else puts L G k
    | _, _ => puts L G k
def gots (L : List Op) (G : List Got) : Nat → List Int
  | 0 => []
  | k + 1 => match L[k]?, G[k]? with
    | some o, some g => if o.put = false ∧ g.ok = true then gots L G k ++ [g.v] else gots L G k
    | _, _ => gots L G k

theorem puts_len {L : List Op} {G : List Got} : ∀ k, (puts L G k).length ≤ k
  | 0 => by simp [puts]
  | k + 1 => by
    have ih := puts_len (L := L) (G := G) k
    simp only [puts]
    split
    · split
      · simp; omega
      · omega
    · omega
theorem gots_len {L : List Op} {G : List Got} : ∀ k, (gots L G k).length ≤ k
  | 0 => by simp [gots]
  | k + 1 => by
    have ih := gots_len (L := L) (G := G) k
    simp only [gots]
    split
    · split
      · simp; omega
      · omega
    · omega

theorem puts_next {L : List Op} {G : List Got} {k : Nat} {o : Op} {g : Got} (h : L[k]? = some o) (h2 : G[k]? = some g) : puts L G (k + 1) = if o.put = true ∧ g.ok = true then puts L G k ++ [o.v] else puts L G k := by
  simp only [puts, h, h2]
theorem gots_next {L : List Op} {G : List Got} {k : Nat} {o : Op} {g : Got} (h : L[k]? = some o) (h2 : G[k]? = some g) : gots L G (k + 1) = if o.put = false ∧ g.ok = true then gots L G k ++ [g.v] else gots L G k := by
  simp only [gots, h, h2]

/-- FIRST IN, FIRST OUT. -/
theorem order {n : Nat} {L : List Op} : ∀ k, k ≤ L.length → puts L (upto n L L.length).1 k = gots L (upto n L L.length).1 k ++ (upto n L k).2
  | 0, _ => by simp [puts, gots, upto]
  | k + 1, hk => by
    have ih := order (n := n) (L := L) k (by omega)
    obtain ⟨o, ho⟩ : ∃ o, L[k]? = some o := ⟨_, List.getElem?_eq_getElem (by omega)⟩
    have hg := upto_get (n := n) ho L.length (by omega) (Nat.le_refl _)
    rw [puts_next ho hg, gots_next ho hg, upto_next ho]
    simp only [got, wds]
    by_cases hp : o.put = true
    · by_cases hl : (upto n L k).2.length < n
      · simp [hp, hl, ih]
      · simp [hp, hl, ih]
    · have hp2 : o.put = false := by simpa using hp
      cases hw : (upto n L k).2 with
      | nil => rw [hw] at ih; simp [hp2, ih]
      | cons x xs => rw [hw] at ih; simp [hp2, ih]

/-- A WIDER BOX REFUSES NO MORE. -/
theorem wider {n m : Nat} {ws : List Int} {o : Op} (hnm : n ≤ m) : (got n ws o = got m ws o ∧ wds n ws o = wds m ws o) ∨ (o.put = true ∧ (got n ws o).ok = false ∧ (got m ws o).ok = true ∧ got n ws o ≠ got m ws o) := by
  unfold got wds
  by_cases hp : o.put = true
  · simp only [if_pos hp]
    by_cases h1 : ws.length < n
    · left
      have h2 : ws.length < m := by omega
      simp [h1, h2]
    · by_cases h2 : ws.length < m
      · right; simp [h1, h2, hp]
      · left; simp [h1, h2]
  · simp only [if_neg hp]
    left
    simp

end Ml
end Go.Proofs.Ytbpebecfnbdckaa
