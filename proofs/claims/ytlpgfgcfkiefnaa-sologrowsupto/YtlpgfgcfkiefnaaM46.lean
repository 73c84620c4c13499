/- The walks of SameAll, SameReport. -/
import Derived.Test.YtlpgfgcfkiefnaaM45
namespace Go.Proofs.Ytlpgfgcfkiefnaa.Vw
open Go.RowKit Vf Vm

end Go.Proofs.Ytlpgfgcfkiefnaa.Vw

/- The walk of SoloFurther. -/
namespace Go.Proofs.Ytlpgfgcfkiefnaa.Vw
open Go.RowKit Vf Vm

/-- What a report says. -/
structure SoOk (w : World) (m : Md) (task most : Int) (fs : List (List Int)) (s q tr st : Nat) (vO vS vT : Value) : Prop where
  stat : (s, q) = stat lsX m (soloR m task most fs).2.1 (soloR m task most fs).2.2
  trap : tr = (soloR m task most fs).2.1.trap
  steps : st = (soloR m task most fs).1
  rd : RpRd w (soloR m task most fs).2.1 (soloR m task most fs).2.2 vO vS vT
  li : ∃ K, Known m K ∧ LI m K fs (soloR m task most fs).1 (soloR m task most fs).2.1 (soloR m task most fs).2.2
theorem SoOk.below {w w' : World} {m : Md} {task most : Int} {fs : List (List Int)} {s q tr st : Nat} {vO vS vT : Value} (h : SoOk w m task most fs s q tr st vO vS vT) (hb : Below w.heap.size w w') : SoOk w' m task most fs s q tr st vO vS vT := ⟨h.stat, h.trap, h.steps, h.rd.below hb, h.li⟩

theorem solo_some (m : Md) (ab au : Option Addr) (cb cu B : Nat) (fs : List (List Int)) (a : Option Addr) (cap : Nat) (fa : Nat → Option Addr) (fc : Nat → Nat) (w : World) (hmd : Hid (ModIn B w m ab au)) (hfd : Hid (FdIn B w fs a fa fc)) (hB : B ≤ w.heap.size) (task most : Int) (E : Int) (hE : Hid (E = soloE m task most fs)) :
    Calls Try.prog 8 #[mdV m ab au cb cu, .int .i64 task, .slice a fs.length cap, .int .i64 most] w fun e w' => ∃ s q tr st oa on oc sa sn sc ta tn tc, e = .returned (.tuple #[repV s q tr (.slice oa on oc) (.slice sa sn sc) (.slice ta tn tc) st, .int .i64 E]) ∧ Below w.heap.size w w' ∧ (E = 0 → SoOk w' m task most fs s q tr st (.slice oa on oc) (.slice sa sn sc) (.slice ta tn tc)) := by
  refine (solo_any m ab au cb cu B fs a cap fa fc w hmd hfd hB task most E hE).mono ?_
  rintro e w' ⟨hb, hr⟩
  rcases hr with ⟨h0, rfl⟩ | ⟨h0, vO, vS, vT, rfl, hR, hK⟩
  · exact ⟨0, 0, 0, 0, none, 0, 0, none, 0, 0, none, 0, 0, rfl, hb, fun e => absurd e h0⟩
  · have hrd := hR.reads
    obtain ⟨oa, oc, e1, _⟩ := hrd.out
    obtain ⟨sa, sc, e2, _⟩ := hrd.sent
    obtain ⟨ta, tc, e3, _⟩ := hrd.took
    subst e1 e2 e3 h0
    exact ⟨_, _, _, _, oa, _, oc, sa, _, sc, ta, _, tc, rfl, hb, fun _ => ⟨rfl, rfl, rfl, hrd, hK⟩⟩

/-- How much there is at most. -/
theorem SoOk.few {w : World} {m : Md} {task most : Int} {fs : List (List Int)} {s q tr st : Nat} {vO vS vT : Value} (h : SoOk w m task most fs s q tr st vO vS vT) (hE : soloE m task most fs = 0) : (soloR m task most fs).2.1.out.length ≤ 5000 ∧ (soloR m task most fs).2.2.length ≤ 30 ∧ (∀ q ∈ (soloR m task most fs).2.2, q.sent.length ≤ 5000) ∧ st ≤ 5000 := by
  obtain ⟨hv, t0, t1, m0, m1, hl, hw⟩ := soloE_zero hE
  obtain ⟨⟨_, _⟩, hb⟩ := known_of hv
  obtain ⟨K, _, hI⟩ := h.li
  have hst : (soloR m task most fs).1 ≤ most.toNat := go_le _ _ _
  have h1 := hI.out
  have h2 := hI.len
  refine ⟨by omega, by omega, fun q hq => ?_, by rw [h.steps]; omega⟩
  obtain ⟨i, hi⟩ := List.getElem?_of_mem hq
  have := (hI.lists i q hi).2.2.1
  omega

/-- Two reports, one of which says no less. -/
theorem RS.at {w : World} {v : Value} {x : List Lst} (h : RS w v (x.map (·.sent))) : ∃ a c, v = .slice a x.length c ∧ ∀ (i : Nat) q, x[i]? = some q → ∃ b off u, a = some ⟨b, off, none⟩ ∧ b < w.heap.size ∧ w.cell? ⟨b, off + i, none⟩ = some u ∧ RI w u q.sent := by
  obtain ⟨a, c, e, hr⟩ := h
  refine ⟨a, c, by simpa using e, fun i q hq => ?_⟩
  obtain ⟨b, off, u, e2, hc, hi⟩ := hr i q.sent (by rw [List.getElem?_map, hq]; rfl)
  exact ⟨b, off, u, e2, World.block_lt_of_cell? w _ hc, hc, hi⟩

end Go.Proofs.Ytlpgfgcfkiefnaa.Vw

