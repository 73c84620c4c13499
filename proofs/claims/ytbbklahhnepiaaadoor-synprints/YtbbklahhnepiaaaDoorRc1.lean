/- The walks of the document's own look at a program's form: more, Type, Kids. -/
import Derived.Test.YtbbklahhnepiaaaDoorRc0
namespace Go.Proofs.YtbbklahhnepiaaaDoor
open Go.RowKit

/-- The counter lies in block C. -/
def CT (w : World) (C n : Nat) : Prop := w.heap[C]? = some (.cells #[.int .i64 n] 56 (0, 0))

theorem CT.lt {w : World} {C n : Nat} (h : CT w C n) : C < w.heap.size := lt_of_block h
theorem CT.set {w : World} {C n m : Nat} (h : CT w C n) {v : Int} (hv : v = m) : CT (w.setCell ⟨C, 0, none⟩ (.int .i64 v)) C m := by subst hv; exact one_setCell h
theorem CT.keep {w w' : World} {C n : Nat} {r : Option Nat} (h : CT w C n) (hg : w.grownBy w' r) (hr : r ≠ some C) : CT w' C n := (hg.block C h.lt (fun e => hr e.symm)).trans h
theorem CT.alloc {w : World} {C n : Nat} (h : CT w C n) (o : Obj) : CT (w.alloc o) C n := h.keep (World.grownBy_alloc w o none) (by simp)

/-- What comes of the document's look. -/
def FateR (C : Nat) (r : Except Int Nat) (e : Ending) (w' : World) : Prop :=
  match r with
  | .ok m => e = .returned (.int .i64 0) ∧ CT w' C m
  | .error er => e = .returned (.int .i64 er) ∧ er ≠ 0

set_option maxRecDepth 100000 in
set_option maxHeartbeats 400000 in
theorem more_any (C n d : Nat) (deep : Int) (b : Bool) (w : World) (hC : Hid (CT w C n)) (hn : n ≤ 2000) (hd : Hid (deep = 41 - (d : Int))) (hb : Hid (b = decide (n + 1 ≤ 2000 ∧ d ≠ 0))) :
    Calls Tryd.prog 34 #[.pointer (some ⟨C, 0, none⟩), .int .i64 deep] w fun e w' => e = .returned (.bool b) ∧ w.grownBy w' (some C) ∧ CT w' C (n + 1) := by
  have HC1 : Hid (CT (w.setCell ⟨C, 0, none⟩ (.int .i64 ((n : Int) + 1))) C (n + 1)) := hC.out.set (by omega)
  have HG : Hid (w.grownBy (w.setCell ⟨C, 0, none⟩ (.int .i64 ((n : Int) + 1))) (some C)) := grown_at _ _ _ _
  have c0 := cell_of_one hC.out
  have f0 := free_of_one hC.out
  by_cases h1 : n + 1 ≤ 2000
  · have e1 : (n : Int) + 1 ≤ 2000 := by omega
    by_cases h2 : d = 0
    · have HB : Hid (b = false) := by rw [hb.out, decide_eq_false (by omega)]; rfl
      have e2 : 40 < deep := by have := hd.out; omega
      clear h1 h2 hn
      go_enter Tryd.func34, Tryd.ntmps34
      go_wp2
      go_ret
      exact ⟨ret_bool (by rw [HB.out]; exact decide_eq_false (by omega)), HG.out, HC1.out⟩
    · have HB : Hid (b = true) := by rw [hb.out, decide_eq_true ⟨h1, h2⟩]; rfl
      have e2 : deep ≤ 40 := by have := hd.out; omega
      clear h1 h2 hn
      go_enter Tryd.func34, Tryd.ntmps34
      go_wp2
      go_ret
      exact ⟨ret_bool HB.out.symm, HG.out, HC1.out⟩
  · have e1 : 2000 < (n : Int) + 1 := by omega
    have HB : Hid (b = false) := by rw [hb.out, decide_eq_false (by omega)]; rfl
    clear h1
    go_enter Tryd.func34, Tryd.ntmps34
    go_wp2
    go_ret
    exact ⟨ret_bool HB.out.symm, HG.out, HC1.out⟩

set_option maxHeartbeats 400000 in
theorem rty_any (t : Sy.Ty) (er : Int) (w : World) (hs : t.gen.size ≤ maxLen) (he : Hid (er = Sy.tyW t)) :
    Calls Tryd.prog 36 #[tyV t] w fun e w' => e = .returned (.int .i64 er) ∧ w.grownBy w' none := by
  have HG : Hid (w.grownBy (w.alloc (.cells #[.int .i64 t.kind, .string t.gen] 38)) none) := World.grownBy_alloc _ _ _
  by_cases h1 : t.kind < 1
  · have HE : Hid (er = 1) := by have := he.out; unfold Sy.tyW at this; rw [if_pos (.inl h1)] at this; exact this
    go_enter Tryd.func36, Tryd.ntmps36
    go_wp2
    go_ret
    exact ⟨ret_int HE.out.symm, HG.out⟩
  · by_cases h2 : 3 < t.kind
    · have HE : Hid (er = 1) := by have := he.out; unfold Sy.tyW at this; rw [if_pos (.inr h2)] at this; exact this
      go_enter Tryd.func36, Tryd.ntmps36
      go_wp2
      go_ret
      exact ⟨ret_int HE.out.symm, HG.out⟩
    · by_cases h3 : t.kind = 3
      · have HE : Hid (er = if Sy.nm t.gen = false then 7 else 0) := by
          have := he.out; unfold Sy.tyW at this; rw [if_neg (by omega)] at this; simp only [h3, true_and] at this; exact this
        have e3 : (t.kind == 3) = true := by simp [h3]
        clear h3
        cases hn : Sy.nm t.gen
        · have HE2 : Hid (er = 7) := by rw [if_pos hn] at HE; exact HE
          have HN : Hid (Lx.named t.gen.toList = false) := hn
          clear hn
          go_enter Tryd.func36, Tryd.ntmps36
          go_wp2_with fail
          refine (refNamed_any t.gen _ hs).mono ?_
          rintro e w1 ⟨rfl, hb⟩
          rw [HN.out]
          have HB : Hid (w.grownBy w1 none) := grown_trans HG.out ⟨hb.os, hb.tape, hb.output, hb.size, fun k hk _ => hb.block k hk⟩
          clear hb
          go_wp2
          go_ret
          exact ⟨ret_int HE2.out.symm, HB.out⟩
        · have HE2 : Hid (er = 0) := by rw [if_neg (by rw [hn]; decide)] at HE; exact HE
          have HN : Hid (Lx.named t.gen.toList = true) := hn
          clear hn
          go_enter Tryd.func36, Tryd.ntmps36
          go_wp2_with fail
          refine (refNamed_any t.gen _ hs).mono ?_
          rintro e w1 ⟨rfl, hb⟩
          rw [HN.out]
          have HB : Hid (w.grownBy w1 none) := grown_trans HG.out ⟨hb.os, hb.tape, hb.output, hb.size, fun k hk _ => hb.block k hk⟩
          clear hb
          go_wp2
          go_ret
          exact ⟨ret_int HE2.out.symm, HB.out⟩
      · have HE : Hid (er = 0) := by
          have := he.out; unfold Sy.tyW at this; rw [if_neg (by omega), if_neg (by omega)] at this; exact this
        have e3 : (t.kind == 3) = false := by simp [h3]
        clear h3
        go_enter Tryd.func36, Tryd.ntmps36
        go_wp2
        go_ret
        exact ⟨ret_int HE.out.symm, HG.out⟩

end Go.Proofs.YtbbklahhnepiaaaDoor
