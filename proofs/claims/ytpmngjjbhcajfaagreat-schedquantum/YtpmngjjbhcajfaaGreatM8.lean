/- The walk of slices.Clone. -/
import Derived.Test.YtpmngjjbhcajfaaGreatM7
namespace Go.Proofs.YtpmngjjbhcajfaaGreat.Sb
open Go.RowKit

theorem CK.alloc {w : World} {g : Nat} {ws : List Int} {r : Nat} (h : CK w g ws r) (o : Obj) : CK (w.alloc o) g ws r := by
  obtain ⟨cs, hc, hr⟩ := h
  exact ⟨cs, (Below.heap_alloc _ _ _ (lt_of_block hc)).trans hc, hr⟩

theorem not_nil (g c r : Nat) (w : World) : Sem.run Tryz.prog (binOp BinOp.eql 46 (.slice (some ⟨g, 0, none⟩) c r) (.slice none 0 0)) w = .ok (.bool false) w := by kernel_rfl

set_option maxHeartbeats 400000 in
theorem clone_any (g : Nat) (ws : List Int) (r c : Nat) (w : World) (h : Hid (CK w g ws r)) (hc : Hid (c = ws.length)) (hl : ws.length ≤ 400) :
    Calls Tryz.prog 43 #[.slice (some ⟨g, 0, none⟩) c r] w fun e w' => ∃ v, e = .returned v ∧ w'.ownsRow w.heap.size 2 1 v ws.length (ints ws) ∧ Below w.heap.size w w' := by
  obtain ⟨i0, hi, hz0, hz1, hz2⟩ := info_parts Tryz.info2
  have hnn := not_nil g c r w
  have hcl : c ≤ 400 := by have := hc.out; omega
  go_enter Tryz.func43, Tryz.ntmps43
  have HO : Hid ((w.alloc (.cells #[] 2)).ownsRow w.heap.size 2 1 (.slice (some ⟨w.heap.size, 0, none⟩) 0 0) 0 []) := ⟨rfl, .inr ⟨w.heap.size, 0, #[], rfl, Nat.le_refl _, heap_alloc_new w _, Nat.le_refl _, Nat.zero_le _, rfl, rfl⟩⟩
  have HN : Hid (∀ j u, (ints ws)[j]? = some u → (w.alloc (.cells #[] 2)).cell? ((⟨g, 0, none⟩ : Addr).add j) = some u) := CK.cellAt (h.out.alloc _)
  have HL : Hid ((ints ws).length = c * 1) := by unfold Hid; have := hc.out; simp; omega
  go_wp2_with (at_builtin; refine wpList_append_own _ rfl _ _ 46 rfl w.heap.size 2 i0 (.int .i64 0) 1 8 Tryz.underlying46 hi hz0 hz1 hz2 rfl (by decide) _ _ _ rfl HO.out ⟨g, 0, none⟩ c r (ints ws) rfl HL.out HN.out (ints_one ws) (by unfold maxLen; omega) (by omega) (by simp) ?_; intro v' w3 hown hgrow hz)
  have HW : Hid (w3.ownsRow w.heap.size 2 1 v' ws.length (ints ws)) := by
    unfold Hid
    have := hown
    rw [hc.out] at this
    simpa using this
  have hg2 : (w.alloc (.cells #[] 2)).grownBy w3 (some w.heap.size) := hgrow
  have HB : Hid (Below w.heap.size w w3) := ((Below.refl _ w).alloc (Nat.le_refl _) _).grown hg2 (by simp) (fun k hk => by simp at hk; omega)
  clear hown hgrow hz hg2
  go_wp2
  go_ret
  exact ⟨v', rfl, HW.out, HB.out⟩

end Go.Proofs.YtpmngjjbhcajfaaGreat.Sb

/- The walk of stacks.New. -/
namespace Go.Proofs.YtpmngjjbhcajfaaGreat.Sb
open Go.RowKit

theorem ck_made {w : World} {B mn : Nat} {g : Nat} {xs : List Value} (h : w.ownsRow B 2 1 (.slice (some ⟨g, 0, none⟩) mn mn) mn xs) : CK w g [] mn := by
  rcases h.2 with ⟨hv, _⟩ | ⟨g', cap, cur, hv, _, hh, _, _, hc, _⟩
  · simp at hv
  · simp at hv
    obtain ⟨rfl, rfl⟩ := hv
    exact ⟨cur.toList, hh, by simpa using hc, rfl⟩

set_option maxHeartbeats 400000 in
/-- WHAT stacks.New ANSWERS. -/
theorem snew_any (mn most : Nat) (w : World) (h1 : 1 ≤ mn) (h2 : mn ≤ most) (h3 : most ≤ 400) :
    Calls Tryz.prog 68 #[.int .i64 mn, .int .i64 most] w fun e w' => ∃ S, e = .returned (.tuple #[.pointer (some ⟨S, 0, none⟩), .int .i64 0]) ∧ SK w' S w.heap.size [] mn mn most ∧ w.heap.size < S ∧ Below w.heap.size w w' := by
  obtain ⟨i0, hi, hz0, hz1, hz2⟩ := info_parts Tryz.info2
  have n1 : ¬ (mn : Int) < 1 := by omega
  have n2 : ¬ (most : Int) < (mn : Int) := by omega
  have n3 : ¬ (400 : Int) < (most : Int) := by omega
  go_enter Tryz.func68, Tryz.ntmps68
  go_wp2_with (at_make; refine wpList_make_full _ rfl _ _ 46 rfl w.heap.size 2 i0 (.int .i64 0) 1 Tryz.underlying46 hi hz0 hz1 _ _ _ _ mn rfl rfl rfl rfl (by rw [hz2]; omega) (by unfold maxLen; omega) (Nat.le_refl _) ?_; intro w1 hown hgrow)
  have hb : Below w.heap.size w w1 := (Below.refl _ w).grown hgrow (Nat.le_refl _) (fun k hk => by simp at hk)
  have hz := lt_of_block (ck_made hown).choose_spec.1
  have HS0 := hide (show SK (w1.alloc (skO w.heap.size 0 mn mn most)) w1.heap.size w.heap.size [] mn mn most from ⟨heap_alloc_new w1 _, (ck_made hown).alloc _, by unfold Sk.Fits; simp; omega⟩)
  have HB := hide (hb.alloc hb.size (skO w.heap.size 0 mn mn most))
  clear hown hgrow n1 n2 n3 hb
  go_wp2
  go_ret2
  exact ⟨_, rfl, HS0.out, hz, HB.out⟩
end Go.Proofs.YtpmngjjbhcajfaaGreat.Sb

