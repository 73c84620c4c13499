/- The walk of leave. -/
import Derived.Test.YtekjhefmhhcboaaGreatM7
namespace Go.Proofs.YtekjhefmhhcboaaGreat.Vw
open Go.RowKit Vf Vm
structure EnAt (c : Cx) (L : Lab) (o i : Nat) (P : Nat → Nat) (w0 : World) (h : Th) (X : Nat) (ob : Obj) (k : Nat) (wr : World) : Prop where
 post : TPost c L o i P w0 wr { h with ws := h.ws ++ List.replicate k 0 }
 box : wr.heap[X]? = some ob
theorem EnAt.next {c : Cx} {L L1 : Lab} {o i : Nat} {P : Nat → Nat} {w0 wr w2 : World} {h : Th} {X : Nat} {ob : Obj} {k : Nat} {S : Nat} {vU : Value} (hX : ¬ ThB L o i X) (hX0 : X < w0.heap.size) (hb : wr.heap[X]? = some ob) (hE : Ex o i L L1 w0) (hC : Chg (ThB L o i) w0 wr) (hp : SPost c L1 o i P wr w2 { h with ws := h.ws ++ List.replicate k 0 ++ [0] } S vU) : EnAt c L o i P w0 h X ob (k + 1) w2 := by
 have e : h.ws ++ List.replicate k 0 ++ [0] = h.ws ++ List.replicate (k + 1) 0 := by rw [List.append_assoc, ← List.replicate_succ']
 rw [e] at hp
 refine ⟨hp.toT.trans hE hC, ?_⟩
 obtain ⟨L2, g, r, _, _, _, h4⟩ := hp
 refine (h4.block X (lt_of_block hb) (fun hx => hX ?_)).trans hb
 unfold ThB at hx ⊢
 rw [hE.1 X hX0] at hx
 exact hx
theorem CK.below {w w' : World} {g : Nat} {ws : List Int} {r : Nat} (h : Sb.CK w g ws r) (e : w'.heap[g]? = w.heap[g]?) : Sb.CK w' g ws r := by
 obtain ⟨cs, hc, hr⟩ := h
 exact ⟨cs, e.trans hc, hr⟩
end Go.Proofs.YtekjhefmhhcboaaGreat.Vw
