/- The law's closed fact: what Read answers of its text. -/
import Derived.Test.YtlnikpcoejpknaaGreatDoorM31
import Derived.KernelRfl
import Derived.Test.YtlnikpcoejpknaaGreatDoorM34
namespace Go.Proofs.YtlnikpcoejpknaaGreatDoor
open Go.RowKit

/-- The law's text. -/
abbrev aliveT : ByteArray := ⟨#[98, 111, 120, 32, 98, 32, 110, 117, 109, 32, 50, 32, 59, 32, 116, 97, 115, 107, 32, 116, 32, 123, 32, 115, 101, 110, 100, 32, 98, 32, 49, 32, 43, 32, 50, 32, 42, 32, 51, 32, 59, 32, 125]⟩

abbrev aliveN (n : Int) : Sy.Ex := ⟨1, n, ⟨#[]⟩, []⟩
def aliveL : List Sy.Df := [⟨1, ⟨#[98]⟩, ⟨1, ⟨#[]⟩⟩, ⟨0, ⟨#[]⟩⟩, 2, [], []⟩, ⟨4, ⟨#[116]⟩, ⟨0, ⟨#[]⟩⟩, ⟨0, ⟨#[]⟩⟩, 0, [], [⟨7, ⟨#[98]⟩, ⟨6, 0, ⟨#[]⟩, [aliveN 1, ⟨8, 0, ⟨#[]⟩, [aliveN 2, aliveN 3]⟩]⟩, [], []⟩]⟩]
theorem read_alive : readL aliveT = (aliveL, 0, 0) := by kernel_rfl

/-- What it means that a text is a program. -/
theorem readL_right {s : ByteArray} (h : (readL s).2.1 = 0) : (Lx.lexB s).2.1 = 0 ∧ ∃ q, Rp.program (Lx.lexB s).1 s.size = .ok (q, (readL s).1) ∧ (Sy.wrongL (readL s).1).1 = 0 := by
  unfold readL at h ⊢
  by_cases h0 : (Lx.lexB s).2.1 = 0
  · rw [if_neg (by simpa using h0)] at h ⊢
    refine ⟨h0, ?_⟩
    cases hp : Rp.program (Lx.lexB s).1 s.size with
    | error e => rw [hp] at h; exact absurd h (Rp.program_nz _ _ e hp)
    | ok x =>
      rw [hp] at h
      by_cases h1 : (Sy.wrongL x.2).1 = 0
      · simp only [h1, ne_eq, not_true_eq_false, if_false]
        exact ⟨x.1, rfl, trivial⟩
      · simp only [ne_eq, h1, not_false_eq_true, if_true] at h
  · rw [if_pos h0] at h
    simp only at h
    omega

end Go.Proofs.YtlnikpcoejpknaaGreatDoor

/- The walk of SynJoined. -/
namespace Go.Proofs.YtlnikpcoejpknaaGreatDoor
open Go.RowKit

theorem jn_step {w a b : World} (h : Below w.heap.size w a) (k : Below a.heap.size a b) : Below w.heap.size w b := h.trans (k.mono h.size)
theorem jn_one (a : World) (o : Obj) : Below a.heap.size a (a.alloc o) := (Below.refl _ a).alloc (Nat.le_refl _) o

/-- What Read answers, and where it lies. -/
theorem read_in (s : ByteArray) (r : List Sy.Df × Int × Int) (w : World) (hs : s.size ≤ maxLen) (hT : TabV w 0) (hr : Hid (r = readL s)) :
    Calls Tryz.prog 5 #[.string s] w fun e w' => ∃ a c, e = .returned (.tuple #[.slice a r.1.length c, .agg #[.int .i64 r.2.1, .int .i64 r.2.2]]) ∧ r.1.length ≤ 6000 ∧ DfsIn w'.heap.size w' r.1 a ∧ Below w.heap.size w w' := by
  have hr' := hr.out
  subst hr'
  refine (read_any s w hs hT).mono ?_
  rintro e w' ⟨a, c, rfl, hl, hq, hb⟩
  exact ⟨a, c, rfl, hl, hq.toIn (fun b h => h.2) hl, hb⟩

theorem alive_read (w : World) (hT : TabV w 0) :
    Calls Tryz.prog 5 #[.string aliveT] w fun e w' => ∃ b o c b2 o2 c2, e = .returned (.tuple #[.slice (some ⟨b, o, none⟩) 2 c, .agg #[.int .i64 0, .int .i64 0]]) ∧ b < w'.heap.size ∧ b2 < w'.heap.size ∧ w'.cell? ⟨b, o + 6, none⟩ = some (.int .i64 2) ∧ w'.cell? ⟨b, o + 9 + 8, none⟩ = some (.slice (some ⟨b2, o2, none⟩) 1 c2) ∧ w'.cell? ⟨b2, o2 + 2, none⟩ = some (.int .i64 6) ∧ Below w.heap.size w w' := by
  refine (read_in aliveT (aliveL, 0, 0) w (by decide) hT read_alive.symm).mono ?_
  rintro e w' ⟨a, c, rfl, _, hd, hb⟩
  obtain ⟨b, o, pa, pc, ba, bc, rfl, hlt, _, _, _, _, _, _, c6, _⟩ := hd.2 0 _ rfl
  obtain ⟨b', o', pa', pc', ba', bc', e', hlt', _, _, _, _, _, _, _, _, c8, hin⟩ := hd.2 1 _ rfl
  cases e'
  obtain ⟨h, hbd⟩ := hin.2.2.2.2
  obtain ⟨b2, o2, xa, xc, ba2, bc2, ea, ec, rfl, hlt2, _, _, d2, _⟩ := hbd.2 0 _ rfl
  exact ⟨b, o, c, b2, o2, bc', rfl, hlt, hlt2, by simpa using c6, by simpa using c8, by simpa using d2, hb⟩

set_option maxRecDepth 100000 in
set_option maxHeartbeats 1000000 in
theorem alive_any (w : World) (hT : TabV w 0) : Calls Tryz.prog 8 #[] w fun e w' => e = .returned (.bool true) ∧ Below w.heap.size w w' := by
  go_enter Tryz.func8, Tryz.ntmps8
  go_wp2_with fail
  refine (alive_read w hT).mono ?_
  rintro e w1 ⟨b, o, c, b2, o2, c2, rfl, hlt, hlt2, x6, x8, x2, hb⟩
  have HB : Hid (Below w.heap.size w w1) := hb
  clear hb
  go_wp2
  go_ret
  exact ⟨rfl, jn_step HB.out (jn_one _ _)⟩

end Go.Proofs.YtlnikpcoejpknaaGreatDoor

