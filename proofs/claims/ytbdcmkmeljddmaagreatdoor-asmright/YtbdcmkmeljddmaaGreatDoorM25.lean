/- Whose boxes are, plainly. -/
import Derived.Test.YtbdcmkmeljddmaaGreatDoorM24
namespace Go.Proofs.YtbdcmkmeljddmaaGreatDoor
open Go.RowKit
namespace Vf

/-- Does a unit come to that? -/
def comes (m : Md) (i : Nat) (q : Lk) : Bool := decide (1 ≤ cnt q (gat m 61 (i : Int) []))
/-- How many of the first k units are tasks that come to it. -/
def tc (m : Md) (q : Lk) (k : Nat) : Nat := (List.range k).countP (fun (i : Nat) => is m 4 (i : Int) && comes m i q)
theorem tc_succ (m : Md) (q : Lk) (k : Nat) : tc m q (k + 1) = tc m q k + if (is m 4 (k : Int) && comes m k q) = true then 1 else 0 := by
  unfold tc
  rw [List.range_succ, List.countP_append, List.countP_singleton]
theorem tc_le (m : Md) (q : Lk) (k : Nat) : tc m q k ≤ k := by
  have := List.countP_le_length (p := fun (i : Nat) => is m 4 (i : Int) && comes m i q) (l := List.range k)
  rw [List.length_range] at this
  exact this
def ownersE (m : Md) (n : Nat) : Int := if 1 < tc m (26, (n : Int)) m.units.length ∨ 1 < tc m (27, (n : Int)) m.units.length then 8 else 0
def ownersW (m : Md) : Int × Nat := firstE (ownersE m) (List.range m.boxes.length) 0
theorem mus_nil : mus [] = 60 := by
  unfold mus
  rw [List.countP_eq_length.2 (fun k _ => by simp [cnt, idx]), univ_len]
end Vf

/-- A map that tells so many. -/
def TkIn (w : World) (T : Nat) (f : Lk → Int) : Prop := ∃ l, LkIn w T l ∧ Vf.Wl l ∧ ∀ q, Vf.cnt q l = f q
theorem TkIn.keep {w w' : World} {T : Nat} {f : Lk → Int} (h : TkIn w T f) (hk : w'.heap[T]? = w.heap[T]?) : TkIn w' T f := by
  obtain ⟨l, h1, h2⟩ := h
  exact ⟨l, hk.trans h1, h2⟩
theorem TkIn.lt {w : World} {T : Nat} {f : Lk → Int} (h : TkIn w T f) : T < w.heap.size := by
  obtain ⟨l, h1, _⟩ := h
  exact lt_of_block h1

/-- Which entries of G have been told already. -/
def told (G : LL) (seen : List Nat) (q : Lk) : Int := if Vf.idx q G ∈ seen then 1 else 0
theorem told_more {G : LL} (hG : Vf.Wl G) {seen : List Nat} {i : Nat} {p : Lk × Int} (hp : G[i]? = some p) (hi : i ∉ seen) (q : Lk) : told G (seen ++ [i]) q = told G seen q + if q = p.1 then 1 else 0 := by
  have hm : p ∈ G := List.mem_of_getElem? hp
  have hx := Vf.mem_idx hG.nodup hm
  -- the key's first place is this one
  have hix : Vf.idx p.1 G = i := by
    obtain ⟨v, hv⟩ := Vf.idx_at hx.2
    have hlt := (List.getElem?_eq_some_iff.1 hp).1
    have h1 : (G.map (·.1))[Vf.idx p.1 G]? = some p.1 := by rw [List.getElem?_map, hv]; rfl
    have h2 : (G.map (·.1))[i]? = some p.1 := by rw [List.getElem?_map, hp]; rfl
    exact (List.getElem?_inj (by simpa using hx.2) hG.nodup).1 (h1.trans h2.symm)
  unfold told
  by_cases hq : q = p.1
  · subst hq
    rw [hix, if_pos (by simp), if_neg hi, if_pos rfl]
    rfl
  · rw [if_neg hq]
    have : Vf.idx q G ≠ i := fun e => by
      have hlt := (List.getElem?_eq_some_iff.1 hp).1
      obtain ⟨v, hv⟩ := Vf.idx_at (k := q) (l := G) (by omega)
      rw [e, hp] at hv
      cases hv
      exact hq rfl
    simp [this]
theorem told_all {G : LL} (hG : Vf.Wl G) {seen : List Nat} (h : ∀ i, i < G.length → i ∈ seen) (h' : ∀ i ∈ seen, i < G.length) (q : Lk) : told G seen q = if (decide (1 ≤ Vf.cnt q G)) = true then 1 else 0 := by
  unfold told
  by_cases hc : Vf.idx q G < G.length
  · rw [if_pos (h _ hc), if_pos (by simpa using (Vf.cnt_pos hG).1 hc)]
  · rw [if_neg (fun hm => hc (h' _ hm)), if_neg (by simpa using fun hc' => hc ((Vf.cnt_pos hG).2 hc'))]

end Go.Proofs.YtbdcmkmeljddmaaGreatDoor

/- What is gathered from a unit on is what one comes to from there, plainly . -/
namespace Go.Proofs.YtbdcmkmeljddmaaGreatDoor
namespace Vf

def Kops (c : Ins) : Prop := c.op = 23 ∨ c.op = 26 ∨ c.op = 27 ∨ c.op = 29
/-- All that was there is there still; whatever call is new has all of its unit's. -/
structure Cl (m : Md) (l l' : LL) : Prop where
  mono : ∀ q, 1 ≤ cnt q l → 1 ≤ cnt q l'
  done : ∀ op a, op = 23 ∨ op = 29 → ¬ 1 ≤ cnt (op, a) l → 1 ≤ cnt (op, a) l' → ∀ c ∈ (unit m a).code, Kops c → 1 ≤ cnt (c.op, c.a) l'
theorem Cl.refl (m : Md) (l : LL) : Cl m l l := ⟨fun _ h => h, fun _ _ _ hn hy => absurd hy hn⟩
theorem Cl.trans {m : Md} {l l1 l2 : LL} (h : Cl m l l1) (k : Cl m l1 l2) : Cl m l l2 := ⟨fun q hq => k.mono q (h.mono q hq), fun op a ho hn hy c hc hk => by
  by_cases h1 : 1 ≤ cnt (op, a) l1
  · exact k.mono _ (h.done op a ho hn h1 c hc hk)
  · exact k.done op a ho h1 hy c hc hk⟩
theorem bump_in {l : LL} (hl : Wl l) (k : Lk) : 1 ≤ cnt k (bump k l) := by
  rw [cnt_bump, if_pos rfl]
  have := cnt_nn hl k
  omega
theorem bump_mono {l : LL} (hl : Wl l) (k q : Lk) (h : 1 ≤ cnt q l) : 1 ≤ cnt q (bump k l) := by
  rw [cnt_bump]
  split
  · have := cnt_nn hl k; omega
  · exact h
theorem bump_old {l : LL} {k q : Lk} (h : 1 ≤ cnt q (bump k l)) (hn : ¬ 1 ≤ cnt q l) : q = k := by
  rw [cnt_bump] at h
  split at h
  · assumption
  · exact absurd h hn
theorem call_is {m : Md} {u : Un} {c : Ins} (hf : formE m u c = 0) (h : c.op = 23 ∨ c.op = 29) : ∃ kd, kd ≠ 4 ∧ is m kd c.a = true := by
  obtain ⟨_, _, hrg⟩ := formE_zero hf
  rcases h with h | h
  · refine ⟨2, by decide, ?_⟩
    rw [← hrg]
    unfold ranged
    rw [if_neg (by omega), if_neg (by omega), if_neg (by omega), if_pos h]
  · refine ⟨3, by decide, ?_⟩
    rw [← hrg]
    unfold ranged
    rw [if_neg (by omega), if_neg (by omega), if_neg (by omega), if_neg (by omega), if_pos h]
theorem call_univ {m : Md} {u : Un} {c : Ins} (hR : Rt m) (hf : formE m u c = 0) (h : c.op = 23 ∨ c.op = 29) : (c.op, c.a) ∈ univ := by
  obtain ⟨kd, _, hi⟩ := call_is hf h
  obtain ⟨x, h3, _, h4⟩ := is_some hi
  have := (List.getElem?_eq_some_iff.1 h3).1
  have h5 := hR.units
  obtain ⟨k, hk⟩ : ∃ k : Nat, c.a = k := ⟨c.a.toNat, by omega⟩
  rw [hk]
  exact univ_mem h (by omega)

theorem gstep_cl {m : Md} {u : Un} {c : Ins} {f : Nat} {l : LL} (hR : Rt m) (hf : formE m u c = 0) (hl : Wl l) (hm : mus l ≤ f)
    (ih : ∀ n l, Wl l → mus l + 1 ≤ f → Cl m l (gat m f n l) ∧ ∀ c ∈ (unit m n).code, Kops c → 1 ≤ cnt (c.op, c.a) (gat m f n l)) : Cl m l (gstep (gat m f) c l) ∧ (Kops c → 1 ≤ cnt (c.op, c.a) (gstep (gat m f) c l)) := by
  unfold gstep
  by_cases h1 : c.op = 26 ∨ c.op = 27
  · rw [if_pos h1]
    refine ⟨⟨fun q hq => bump_mono hl _ q hq, fun op a ho hn hy => ?_⟩, fun _ => bump_in hl _⟩
    have e := bump_old hy hn
    simp only [Prod.mk.injEq] at e
    omega
  · rw [if_neg h1]
    by_cases h2 : c.op = 23 ∨ c.op = 29
    · rw [if_pos h2]
      by_cases h0 : cnt (c.op, c.a) l = 0
      · rw [if_pos h0]
        have hn := mus_new hl (call_univ hR hf h2) h0
        obtain ⟨hC, hB⟩ := ih c.a (bump (c.op, c.a) l) (hl.bump _) (by omega)
        refine ⟨⟨fun q hq => hC.mono q (bump_mono hl _ q hq), fun op a ho hno hy => ?_⟩, fun _ => hC.mono _ (bump_in hl _)⟩
        by_cases hb : 1 ≤ cnt (op, a) (bump (c.op, c.a) l)
        · have e := bump_old hb hno
          simp only [Prod.mk.injEq] at e
          rw [e.2]
          exact hB
        · exact hC.done op a ho hb hy
      · rw [if_neg h0]
        have hp : 1 ≤ cnt (c.op, c.a) l := by have := cnt_nn hl (c.op, c.a); omega
        refine ⟨⟨fun q hq => bump_mono hl _ q hq, fun op a ho hno hy => ?_⟩, fun _ => bump_in hl _⟩
        have e := bump_old hy hno
        rw [e] at hno
        exact absurd hp hno
    · rw [if_neg h2]
      refine ⟨Cl.refl m l, fun hk => ?_⟩
      unfold Kops at hk
      omega
theorem gatC_cl {m : Md} {u : Un} {f : Nat} (hR : Rt m) (ih : ∀ n l, Wl l → mus l + 1 ≤ f → Cl m l (gat m f n l) ∧ ∀ c ∈ (unit m n).code, Kops c → 1 ≤ cnt (c.op, c.a) (gat m f n l)) : ∀ (cs : List Ins) (l : LL), (∀ c ∈ cs, formE m u c = 0) → Wl l → mus l ≤ f → Cl m l (gatC (gat m f) cs l) ∧ ∀ c ∈ cs, Kops c → 1 ≤ cnt (c.op, c.a) (gatC (gat m f) cs l)
  | [], l, _, _, _ => ⟨Cl.refl m l, fun c hc => by cases hc⟩
  | c :: cs, l, hf, hl, hm => by
    have h1 := gstep_cl hR (hf c List.mem_cons_self) hl hm ih
    have hg := gstep_gd hR.units (hf c List.mem_cons_self) hl (gat_gd hR f)
    have h2 := gatC_cl hR ih cs (gstep (gat m f) c l) (fun c hc => hf c (List.mem_cons_of_mem _ hc)) hg.wl (Nat.le_trans hg.mus hm)
    have e : gatC (gat m f) (c :: cs) l = gatC (gat m f) cs (gstep (gat m f) c l) := rfl
    rw [e]
    refine ⟨h1.1.trans h2.1, fun c' hc' hk => ?_⟩
    rcases List.mem_cons.1 hc' with rfl | h3
    · exact h2.1.mono _ (h1.2 hk)
    · exact h2.2 c' h3 hk
theorem gat_cl {m : Md} (hR : Rt m) : ∀ (f : Nat) (n : Int) (l : LL), Wl l → mus l + 1 ≤ f → Cl m l (gat m f n l) ∧ ∀ c ∈ (unit m n).code, Kops c → 1 ≤ cnt (c.op, c.a) (gat m f n l)
  | 0, _, _, _, h => by omega
  | f + 1, n, l, hl, h => gatC_cl (u := unit m n) hR (gat_cl hR f) (unit m n).code l (unit_in hR n).2 hl (by omega)

/-- One comes from a unit to a unit. -/
inductive Reach (m : Md) : Int → Int → Prop
  | here (n : Int) : Reach m n n
  | step {n k : Int} {c : Ins} : Reach m n k → c ∈ (unit m k).code → c.op = 23 ∨ c.op = 29 → Reach m n c.a
theorem Reach.head {m : Md} {n k : Int} {c : Ins} (hc : c ∈ (unit m n).code) (ho : c.op = 23 ∨ c.op = 29) (h : Reach m c.a k) : Reach m n k := by
  induction h with
  | here => exact .step (.here n) hc ho
  | step _ h2 h3 ih => exact .step ih h2 h3

theorem gat_sound {m : Md} (q : Lk) : ∀ (f : Nat) (n : Int) (l : LL), 1 ≤ cnt q (gat m f n l) → 1 ≤ cnt q l ∨ ∃ k, Reach m n k ∧ ∃ c ∈ (unit m k).code, (c.op, c.a) = q
  | 0, _, _, h => .inl h
  | f + 1, n, l, h => by
    have key : ∀ (cs : List Ins) (l : LL), (∀ c ∈ cs, c ∈ (unit m n).code) → 1 ≤ cnt q (gatC (gat m f) cs l) → 1 ≤ cnt q l ∨ ∃ k, Reach m n k ∧ ∃ c ∈ (unit m k).code, (c.op, c.a) = q := by
      intro cs
      induction cs with
      | nil => intro l _ h; exact .inl h
      | cons c cs ih =>
        intro l hcs h
        have hc := hcs c List.mem_cons_self
        rcases ih (gstep (gat m f) c l) (fun c hc => hcs c (List.mem_cons_of_mem _ hc)) h with h1 | h1
        · have hb : 1 ≤ cnt q (bump (c.op, c.a) l) → 1 ≤ cnt q l ∨ ∃ k, Reach m n k ∧ ∃ c ∈ (unit m k).code, (c.op, c.a) = q := fun hb => by
            by_cases hq : 1 ≤ cnt q l
            · exact .inl hq
            · exact .inr ⟨n, .here n, c, hc, (bump_old hb hq).symm⟩
          unfold gstep at h1
          split at h1
          · exact hb h1
          · split at h1
            · rename_i h2
              split at h1
              · rcases gat_sound q f c.a _ h1 with h3 | ⟨k, h3, h4⟩
                · exact hb h3
                · exact .inr ⟨k, Reach.head hc h2 h3, h4⟩
              · exact hb h1
            · exact .inl h1
        · exact .inr h1
    exact key _ l (fun c hc => hc) h
/-- WHAT A UNIT COMES TO. -/
theorem comes_iff {m : Md} (hR : Rt m) (i : Nat) {q : Lk} (hq : q.1 = 26 ∨ q.1 = 27) : comes m i q = true ↔ ∃ k, Reach m (i : Int) k ∧ ∃ c ∈ (unit m k).code, (c.op, c.a) = q := by
  unfold comes
  rw [decide_eq_true_iff]
  constructor
  · intro h
    rcases gat_sound q 61 (i : Int) [] h with h1 | h1
    · exfalso
      simp [cnt, idx] at h1
    · exact h1
  · rintro ⟨k, hk, c, hc, rfl⟩
    obtain ⟨hC, hB⟩ := gat_cl hR 61 (i : Int) [] Wl.nil (by rw [mus_nil]; omega)
    have all : ∀ k, Reach m (i : Int) k → ∀ c ∈ (unit m k).code, Kops c → 1 ≤ cnt (c.op, c.a) (gat m 61 (i : Int) []) := by
      intro k hk
      induction hk with
      | here => exact hB
      | step _ h2 h3 ih =>
        refine hC.done _ _ h3 (by simp [cnt, idx]) (ih _ h2 ?_)
        unfold Kops
        omega
    exact all k hk c hc (by unfold Kops; simp at hq; omega)

end Vf
end Go.Proofs.YtbdcmkmeljddmaaGreatDoor

