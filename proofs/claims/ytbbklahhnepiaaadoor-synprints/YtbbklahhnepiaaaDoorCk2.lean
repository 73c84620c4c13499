/- The walks of the checker's node, valueType and params. -/
import Derived.Test.YtbbklahhnepiaaaDoorCk1
namespace Go.Proofs.YtbbklahhnepiaaaDoor
open Go.RowKit

/-- What comes of a node by itself. -/
def nodeR (kind most : Int) (d n : Nat) : Except Int Nat := if Sy.nodeW kind most d n ≠ 0 then .error (Sy.nodeW kind most d n) else .ok (n + 1)

set_option maxRecDepth 100000 in
set_option maxHeartbeats 400000 in
theorem node_any (C n d : Nat) (num kind most deep : Int) (r : Except Int Nat) (w : World) (hC : Hid (CK w C num n)) (hn : n ≤ 2000) (hd : deep = 41 - d) (hr : Hid (r = nodeR kind most d n)) :
    Calls Tryd.prog 28 #[.pointer (some ⟨C, 0, none⟩), .int .i64 kind, .int .i64 most, .int .i64 deep] w fun e w' => w.grownBy w' (some C) ∧ Fate C num r e w' := by
  have HC1 : Hid (CK (w.setCell ⟨C, 1, none⟩ (.int .i64 ((n : Int) + 1))) C num (n + 1)) := hC.out.set1 (by omega)
  have HG : Hid (w.grownBy (w.setCell ⟨C, 1, none⟩ (.int .i64 ((n : Int) + 1))) (some C)) := grown_at _ _ _ _
  obtain ⟨c0, c1, f0, f1⟩ := hC.out.cells
  by_cases h1 : 2000 < n + 1
  · have HR : Hid (r = .error 4) := by
      have : Sy.nodeW kind most d n = 4 := by unfold Sy.nodeW; rw [if_pos (.inl h1)]
      have := hr.out; unfold nodeR at this; simp_all [Hid]
    have e1 : decide ((n : Int) + 1 > 2000) = true := by simp; omega
    go_enter Tryd.func28, Tryd.ntmps28
    go_wp2_with fail
    refine (fail_any C (n + 1) num 4 _ HC1.out).mono ?_
    rintro e w1 ⟨rfl, rfl⟩
    go_wp2
    exact ⟨rfl, HG.out, by rw [HR.out]; rfl⟩
  · have e1 : (n : Int) + 1 ≤ 2000 := by omega
    by_cases h2 : d = 0
    · have HR : Hid (r = .error 4) := by
        have : Sy.nodeW kind most d n = 4 := by unfold Sy.nodeW; rw [if_pos (.inr h2)]
        have := hr.out; unfold nodeR at this; simp_all [Hid]
      have e2 : 40 < deep := by omega
      clear h2 hd h1 hn
      go_enter Tryd.func28, Tryd.ntmps28
      go_wp2_with fail
      refine (fail_any C (n + 1) num 4 _ HC1.out).mono ?_
      rintro e w1 ⟨rfl, rfl⟩
      go_wp2
      exact ⟨rfl, HG.out, by rw [HR.out]; rfl⟩
    · have e2 : deep ≤ 40 := by omega
      obtain ⟨er, hE⟩ : ∃ er : Int, er = if kind < 1 ∨ most < kind then 1 else 0 := ⟨_, rfl⟩
      have HE : Hid (er = if kind < 1 ∨ most < kind then 1 else 0) := hE
      have HR : Hid (r = if er ≠ 0 then .error er else .ok (n + 1)) := by
        have : Sy.nodeW kind most d n = er := by unfold Sy.nodeW; rw [if_neg (by omega), hE]
        have h := hr.out; unfold nodeR at h; rw [this] at h; exact h
      clear h2 hd hE h1 hn
      go_enter Tryd.func28, Tryd.ntmps28
      go_wp2_with fail
      refine (kind_any C (n + 1) num kind most er _ HC1 HE).mono ?_
      rintro e w1 hf
      have HF : Hid (Fate0 num er _ e w1) := hf
      clear hf
      by_cases h0 : er = 0
      · have HR2 : Hid (r = .ok (n + 1)) := by have h := HR.out; rw [if_neg (by simpa using h0)] at h; exact h
        obtain rfl := fate0_not HF.out h0
        clear h0
        go_wp2
        go_end0
        exact ⟨grown_trans HG.out ⟨HF.out.1.os, HF.out.1.tape, HF.out.1.output, HF.out.1.size, fun k hk _ => HF.out.1.block k hk (by simp)⟩, by rw [HR2.out]; exact ⟨rfl, HC1.out.keep HF.out.1 (by simp)⟩⟩
      · have HR2 : Hid (r = .error er) := by have h := HR.out; rw [if_pos (by simpa using h0)] at h; exact h
        obtain rfl := fate0_err HF.out h0
        clear h0
        go_wp2
        exact ⟨rfl, grown_trans HG.out ⟨HF.out.1.os, HF.out.1.tape, HF.out.1.output, HF.out.1.size, fun k hk _ => HF.out.1.block k hk (by simp)⟩, by rw [HR2.out]; rfl⟩

end Go.Proofs.YtbbklahhnepiaaaDoor
