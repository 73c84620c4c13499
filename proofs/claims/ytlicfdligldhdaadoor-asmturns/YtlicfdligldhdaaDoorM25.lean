/- The walk of yieldlaw13's alive: the small listing is read. -/
import Derived.Test.YtlicfdligldhdaaDoorM24
namespace Go.Proofs.YtlicfdligldhdaaDoor.Aw
open Go.RowKit As

def aliveM : Vf.Md := ⟨[⟨1, 2⟩], [⟨4, 0, [1], 0, 0, [⟨1, 0, -7⟩, ⟨25, 0, 0⟩]⟩]⟩
abbrev aliveT : By := [98, 111, 120, 32, 49, 32, 50, 10, 116, 97, 115, 107, 32, 48, 32, 48, 32, 48, 32, 49, 10, 9, 112, 117, 115, 104, 32, 45, 55, 10, 9, 101, 110, 100, 10]
theorem dig0 : dig 0 = [48] := by unfold dig; rw [if_neg (by decide), digN, if_pos (by decide)]; rfl
theorem dig1 : dig 1 = [49] := by unfold dig; rw [if_neg (by decide), digN, if_pos (by decide)]; rfl
theorem dig2 : dig 2 = [50] := by unfold dig; rw [if_neg (by decide), digN, if_pos (by decide)]; rfl
theorem dig7 : dig (-7) = [45, 55] := by unfold dig; rw [if_pos (by decide), digN, if_pos (by decide)]; rfl
theorem alive_lines : text (lines aliveM) = aliveT := by
  simp [lines, linesU, aliveM, unL, bxL, inL, wordOf, tab, args, headW, boxW, taskW, join, text, dig0, dig1, dig2, dig7]
theorem alive_ok : OkM aliveM := by
  refine ⟨fun b hb => ?_, fun u hu => ?_⟩
  · simp [aliveM] at hb; subst hb; decide
  · simp [aliveM] at hu
    subst hu
    refine ⟨by decide, by decide, fun i hi => ?_⟩
    simp at hi
    rcases hi with rfl | rfl
    · exact ⟨by decide, by decide, by decide⟩
    · exact ⟨by decide, by decide, by decide⟩
theorem alive_read : readA aliveT = ((0, 0), aliveM) := by
  have h1 := run_lines alive_ok
  have h2 : bare aliveM = aliveM := by simp [bare, aliveM, bareU, bareI, wordOf, tab]
  rw [h2] at h1
  exact read_ok.2 ⟨by decide, lines aliveM, alive_lines.symm, lines_none (said_of alive_ok), h1⟩

set_option maxHeartbeats 1000000 in
set_option maxRecDepth 100000 in
theorem alive_any (B : Nat) (w : World) (hB : Hid (B ≤ w.heap.size)) (hg : Hid (GV B w)) :
    Calls Tryd.prog 5 #[] w fun e w' => e = .returned (.bool true) ∧ Below w.heap.size w w' := by
  have hr := read_any B aliveT w hB hg
  unfold ReadV at hr
  rw [alive_read] at hr
  have HR := hide hr
  clear hr
  go_enter Tryd.func5, Tryd.ntmps5
  go_wp2_with fail
  refine HR.out.mono ?_
  rintro e w1 ⟨ab, cb, au, cu, rfl, hM, hb⟩
  obtain ⟨b, off, al, cl, ac, cc, rfl, hbl, hU, _, _, _, _, _, c5⟩ := hM.units 0 ⟨4, 0, [1], 0, 0, [⟨1, 0, -7⟩, ⟨25, 0, 0⟩]⟩ rfl
  obtain ⟨_, _, _, b2, off2, rfl, hb2l, _, _, d2⟩ := hU.code 0 ⟨1, 0, -7⟩ rfl
  have c5' : w1.cell? ⟨b, off + 5, none⟩ = some (.slice (some ⟨b2, off2, none⟩) 2 cc) := c5
  have d2' : w1.cell? ⟨b2, off2 + 2, none⟩ = some (.int .i64 (-7)) := d2
  have HB := hide hb
  clear hM hU c5 d2 hb HR
  go_wp2
  go_ret
  exact ⟨rfl, (HB.out.alloc HB.out.size _).alloc (by have := HB.out.size; simp; omega) _⟩

end Go.Proofs.YtlicfdligldhdaaDoor.Aw

