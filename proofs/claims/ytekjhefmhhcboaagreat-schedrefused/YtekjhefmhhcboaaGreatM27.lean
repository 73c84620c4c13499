/- The walk of Comes, whatever is told. -/
import Derived.Test.YtekjhefmhhcboaaGreatM24
import Derived.Test.YtekjhefmhhcboaaGreatM26
import Derived.Deep.QuietTactic
import Derived.BigQuiet
import Derived.Test.YtekjhefmhhcboaaGreatM22
import Derived.Maps.RangeWalk
namespace Go.Proofs.YtekjhefmhhcboaaGreat
open Go.RowKit
theorem TkIn.bump {w : World} {T : Nat} {f : Lk → Int} (h : TkIn w T f) (k : Lk) : ∃ w1 w2 n, (Instr.lookup 120 (.map (some T)) (lkV k) false).run Tryz.prog w = .ok (.int .i64 (f k)) w ∧ (Instr.mapEntry 120 (.map (some T)) (lkV k)).run Tryz.prog w = .ok (.tuple #[.int .i64 (f k), goInt n]) w1 ∧ (Instr.lookup 120 (.map (some T)) (lkV k) false).run Tryz.prog w1 = .ok (.int .i64 (f k)) w1 ∧
  (Instr.entryStore 120 (.map (some T)) (.int .i64 n) (.int .i64 (f k + 1))).run Tryz.prog w1 = .ok () w2 ∧ TkIn w2 T (fun q => f q + if q = k then 1 else 0) ∧ w.grownBy w1 (some T) ∧ w.grownBy w2 (some T) := by
 obtain ⟨l, h1, h2, h3⟩ := h
 obtain ⟨w1, w2, b1, b2, b3, b4, b5, b6⟩ := run_bump h1 k
 have b0 := run_lookL h1 k
 rw [h3] at b0 b1 b2 b3
 refine ⟨w1, w2, _, b0, b1, b2, b3, ⟨_, b4, h2.bump k, fun q => ?_⟩, b5, b6⟩
 show Vf.cnt q (Vf.bump k l) = f q + if q = k then 1 else 0
 rw [Vf.cnt_bump]
 by_cases e : q = k
 ·subst e
  rw [if_pos rfl, if_pos rfl, h3]
 ·rw [if_neg e, if_neg e, h3]
  omega
theorem TkIn.look {w : World} {T : Nat} {f : Lk → Int} (h : TkIn w T f) (k : Lk) : (Instr.lookup 120 (.map (some T)) (lkV k) false).run Tryz.prog w = .ok (.int .i64 (f k)) w := by
 obtain ⟨l, h1, h2, h3⟩ := h
 have b0 := run_lookL h1 k
 rw [h3] at b0
 exact b0
theorem TkIn.wl {w : World} {T : Nat} {f : Lk → Int} (h : TkIn w T f) : ∃ l, LkIn w T l ∧ Vf.Wl l ∧ ∀ q, Vf.cnt q l = f q := h
namespace Vf
def sizesE (m : Md) : Int := if 30 < m.boxes.length ∨ 30 < m.units.length then 5 else 0
def boxE (b : Bx) : Int := if plain b.ty = false then 9 else if b.cap < 1 ∨ 20 < b.cap then 3 else 0
def boxesW (m : Md) : Int × Nat := firstE boxE m.boxes 0
def tasksE (m : Md) : Int := if m.units.any (fun u => u.kind == 4) then 0 else 6
end Vf
end Go.Proofs.YtekjhefmhhcboaaGreat
