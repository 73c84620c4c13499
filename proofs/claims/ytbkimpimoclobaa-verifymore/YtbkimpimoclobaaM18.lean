/- Whose boxes are, plainly. -/
import Derived.Test.YtbkimpimoclobaaM17
namespace Go.Proofs.Ytbkimpimoclobaa
open Go.RowKit
namespace Vf

/-- Does a unit come to that? -/
def comes (m : Md) (i : Nat) (q : Lk) : Bool := decide (1 ≤ cnt q (gat m 61 (i : Int) []))
/-- How many of the first k units are tasks that come to it. -/
def tc (m : Md) (q : Lk) (k : Nat) : Nat := (List.range k).countP (fun (i : Nat) => is m 4 (i : Int) && comes m i q)
theorem tc_succ (m : Md) (q : Lk) (k : Nat) : tc m q (k + 1) = tc m q k + if (is m 4 (k : Int) && comes m k q) = true then 1 else 0 := by
  unfold tc
  rw [List.range_succ, List.countP_append, List.countP_singleton]
theorem tc_le (m : Md) (q : Lk) (k : Nat) : tc m q k ≤ k := by
  have := List.countP_le_length (p := fun (i : Nat) => is m 4 (i : Int) && comes m i q) (l := List.range k)
  rw [List.length_range] at this
  exact this
def ownersE (m : Md) (n : Nat) : Int := if 1 < tc m (26, (n : Int)) m.units.length ∨ 1 < tc m (27, (n : Int)) m.units.length then 8 else 0
def ownersW (m : Md) : Int × Nat := firstE (ownersE m) (List.range m.boxes.length) 0
theorem mus_nil : mus [] = 60 := by
  unfold mus
  rw [List.countP_eq_length.2 (fun k _ => by simp [cnt, idx]), univ_len]
end Vf

/-- A map that tells so many. -/
def TkIn (w : World) (T : Nat) (f : Lk → Int) : Prop := ∃ l, LkIn w T l ∧ Vf.Wl l ∧ ∀ q, Vf.cnt q l = f q
theorem TkIn.keep {w w' : World} {T : Nat} {f : Lk → Int} (h : TkIn w T f) (hk : w'.heap[T]? = w.heap[T]?) : TkIn w' T f := by
  obtain ⟨l, h1, h2⟩ := h
  exact ⟨l, hk.trans h1, h2⟩
theorem TkIn.lt {w : World} {T : Nat} {f : Lk → Int} (h : TkIn w T f) : T < w.heap.size := by
  obtain ⟨l, h1, _⟩ := h
  exact lt_of_block h1

/-- Which entries of G have been told already. -/
def told (G : LL) (seen : List Nat) (q : Lk) : Int := if Vf.idx q G ∈ seen then 1 else 0
theorem told_more {G : LL} (hG : Vf.Wl G) {seen : List Nat} {i : Nat} {p : Lk × Int} (hp : G[i]? = some p) (hi : i ∉ seen) (q : Lk) : told G (seen ++ [i]) q = told G seen q + if q = p.1 then 1 else 0 := by
  have hm : p ∈ G := List.mem_of_getElem? hp
  have hx := Vf.mem_idx hG.nodup hm
  -- the key's first place is this one
  have hix : Vf.idx p.1 G = i := by
    obtain ⟨v, hv⟩ := Vf.idx_at hx.2
    have hlt := (List.getElem?_eq_some_iff.1 hp).1
    have h1 : (G.map (·.1))[Vf.idx p.1 G]? = some p.1 := by rw [List.getElem?_map, hv]; rfl
    have h2 : (G.map (·.1))[i]? = some p.1 := by rw [List.getElem?_map, hp]; rfl
    exact (List.getElem?_inj (by simpa using hx.2) hG.nodup).1 (h1.trans h2.symm)
  unfold told
  by_cases hq : q = p.1
  · subst hq
    rw [hix, if_pos (by simp), if_neg hi, if_pos rfl]
    rfl
  · rw [if_neg hq]
    have : Vf.idx q G ≠ i := fun e => by
      have hlt := (List.getElem?_eq_some_iff.1 hp).1
      obtain ⟨v, hv⟩ := Vf.idx_at (k := q) (l := G) (by omega)
      rw [e, hp] at hv
      cases hv
      exact hq rfl
    simp [this]
theorem told_all {G : LL} (hG : Vf.Wl G) {seen : List Nat} (h : ∀ i, i < G.length → i ∈ seen) (h' : ∀ i ∈ seen, i < G.length) (q : Lk) : told G seen q = if (decide (1 ≤ Vf.cnt q G)) = true then 1 else 0 := by
  unfold told
  by_cases hc : Vf.idx q G < G.length
  · rw [if_pos (h _ hc), if_pos (by simpa using (Vf.cnt_pos hG).1 hc)]
  · rw [if_neg (fun hm => hc (h' _ hm)), if_neg (by simpa using fun hc' => hc ((Vf.cnt_pos hG).2 hc'))]

end Go.Proofs.Ytbkimpimoclobaa

