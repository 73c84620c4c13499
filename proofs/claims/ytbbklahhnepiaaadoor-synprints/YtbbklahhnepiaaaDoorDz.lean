/- What a look that found nothing says of definitions, for the document's Print. -/
import Derived.Test.YtbbklahhnepiaaaDoorDx
import Derived.Test.YtbbklahhnepiaaaDoorPt12
namespace Go.Proofs.YtbbklahhnepiaaaDoor
open Go.RowKit

/-- Nothing is wrong with a definition, as it stands in some program. -/
structure DfG (d : Sy.Df) : Prop where
  ok : DfOk d
  name : d.name.size ≤ 12
  pms : d.kind = 2 ∨ d.kind = 3 → d.params.length ≤ 6 ∧ (∀ p ∈ d.params, p.name.size ≤ 12) ∧ Sy.wt (Sy.pmsT d.params) ≤ 172
  body : d.kind ≠ 1 → Sy.BdS 39 d.body

theorem pms_names : ∀ (l : List Sy.Pm), Sy.pmsW l = 0 → ∀ p ∈ l, p.name.size ≤ 12
  | [], _, p, hp => by cases hp
  | q :: l, h, p, hp => by
    unfold Sy.pmsW at h
    split at h
    · omega
    · rename_i h1
      split at h
      · rename_i h2; exact absurd h h2
      · rcases List.mem_cons.1 hp with rfl | hp
        · exact Sy.nm_size (by simpa using h1)
        · exact pms_names l h p hp

theorem dfG_of {d : Sy.Df} {n m : Nat} (h : Sy.dfW d n = .ok m) : DfG d := by
  have hok := dfOk_of h
  unfold Sy.dfW at h
  split at h
  · simp at h
  · rename_i h0
    have h0 : Sy.dfHead d n = 0 := by simpa using h0
    unfold Sy.dfHead at h0
    split at h0
    · rename_i h1; exact absurd h0 h1
    · rename_i hn
      have hz := Sy.nodeW_zero (by simpa using hn : Sy.nodeW d.kind 4 40 n = 0)
      split at h0
      · omega
      · rename_i hname
        have hname := Sy.nm_size (by simpa using hname : Sy.nm d.name = true)
        split at h0
        · omega
        · rename_i h6
          split at h0
          · rename_i h1; exact absurd h0 h1.2
          · rename_i hpm
            refine ⟨hok, hname, fun hk => ?_, fun hk => ?_⟩
            · have e6 : d.params.length ≤ 6 := by
                by_cases he : 6 < d.params.length
                · exact absurd ⟨hk, he⟩ h6
                · omega
              have ep : Sy.pmsW d.params = 0 := by
                by_cases he : Sy.pmsW d.params = 0
                · exact he
                · exact absurd ⟨hk, he⟩ hpm
              exact ⟨e6, pms_names _ ep, Sy.pms_wt ep e6⟩
            · rw [if_neg hk] at h
              exact ⟨n + 1, m, by omega, h⟩

theorem defs_mem : ∀ (l : List Sy.Df) (i n : Nat), (Sy.defsW l i n).1 = 0 → ∀ d ∈ l, DfG d
  | [], _, _, _, d, hd => by cases hd
  | e :: l, i, n, h, d, hd => by
    unfold Sy.defsW at h
    cases hw : Sy.dfW e n with
    | error er => rw [hw] at h; exact absurd h (dfW_ne hw)
    | ok m =>
      rw [hw] at h
      rcases List.mem_cons.1 hd with rfl | hd
      · exact dfG_of hw
      · exact defs_mem l (i + 1) m h d hd

/-- What comes of a program with which nothing is wrong. -/
theorem right_all {l : List Sy.Df} (h : (Sy.wrongL l).1 = 0) : l.length ≤ 30 ∧ (∀ d ∈ l, DfG d) ∧ Sy.wt (Sy.progT l) ≤ 800000 := by
  unfold Sy.wrongL at h
  split at h
  · simp at h
  · exact ⟨by omega, defs_mem l 0 0 h, by have := Sy.defs_wt l 0 0 h (by omega); omega⟩

theorem prog_at {l : List Sy.Df} {k : Nat} {d : Sy.Df} (h : l[k]? = some d) : Sy.progT (l.drop k) = Sy.dfT d ++ Sy.progT (l.drop (k + 1)) := by
  obtain ⟨hk, rfl⟩ := List.getElem?_eq_some_iff.1 h
  unfold Sy.progT
  rw [List.drop_eq_getElem_cons hk, List.flatMap_cons]

/-- No generator's name is too long for any machine (also where it isn't asked for). -/
def Gens (l : List Sy.Df) : Prop := ∀ d ∈ l, d.ty.gen.size ≤ 140737488355328 ∧ d.takes.gen.size ≤ 140737488355328 ∧ ∀ p ∈ d.params, p.ty.gen.size ≤ 140737488355328

end Go.Proofs.YtbbklahhnepiaaaDoor
