/- The walks of slices.Clone and of words. -/
import Derived.Test.YtnoecaapmcidhaaSt4
namespace Go.Proofs.Ytnoecaapmcidhaa
open Go.RowKit

theorem CK.alloc {w : World} {g : Nat} {ws : List Int} {r : Nat} (h : CK w g ws r) (o : Obj) : CK (w.alloc o) g ws r := by
  obtain ⟨cs, hc, hr⟩ := h
  exact ⟨cs, (Below.heap_alloc _ _ _ (lt_of_block hc)).trans hc, hr⟩

theorem not_nil (g c r : Nat) (w : World) : Sem.run Try.prog (binOp BinOp.eql 23 (.slice (some ⟨g, 0, none⟩) c r) (.slice none 0 0)) w = .ok (.bool false) w := by kernel_rfl

set_option maxHeartbeats 400000 in
theorem clone_any (g : Nat) (ws : List Int) (r c : Nat) (w : World) (h : Hid (CK w g ws r)) (hc : Hid (c = ws.length)) (hl : ws.length ≤ 400) :
    Calls Try.prog 27 #[.slice (some ⟨g, 0, none⟩) c r] w fun e w' => ∃ v, e = .returned v ∧ w'.ownsRow w.heap.size 2 1 v ws.length (ints ws) ∧ Below w.heap.size w w' := by
  obtain ⟨i0, hi, hz0, hz1, hz2⟩ := info_parts Try.info2
  have hnn := not_nil g c r w
  have hcl : c ≤ 400 := by have := hc.out; omega
  go_enter Try.func27, Try.ntmps27
  have HO : Hid ((w.alloc (.cells #[] 2)).ownsRow w.heap.size 2 1 (.slice (some ⟨w.heap.size, 0, none⟩) 0 0) 0 []) := ⟨rfl, .inr ⟨w.heap.size, 0, #[], rfl, Nat.le_refl _, heap_alloc_new w _, Nat.le_refl _, Nat.zero_le _, rfl, rfl⟩⟩
  have HN : Hid (∀ j u, (ints ws)[j]? = some u → (w.alloc (.cells #[] 2)).cell? ((⟨g, 0, none⟩ : Addr).add j) = some u) := CK.cellAt (h.out.alloc _)
  have HL : Hid ((ints ws).length = c * 1) := by unfold Hid; have := hc.out; simp; omega
  go_wp2_with (at_builtin; refine wpList_append_own _ rfl _ _ 23 rfl w.heap.size 2 i0 (.int .i64 0) 1 8 Try.underlying23 hi hz0 hz1 hz2 rfl (by decide) _ _ _ rfl HO.out ⟨g, 0, none⟩ c r (ints ws) rfl HL.out HN.out (ints_one ws) (by unfold maxLen; omega) (by omega) (by simp) ?_; intro v' w3 hown hgrow hz)
  have HW : Hid (w3.ownsRow w.heap.size 2 1 v' ws.length (ints ws)) := by
    unfold Hid
    have := hown
    rw [hc.out] at this
    simpa using this
  have hg2 : (w.alloc (.cells #[] 2)).grownBy w3 (some w.heap.size) := hgrow
  have HB : Hid (Below w.heap.size w w3) := ((Below.refl _ w).alloc (Nat.le_refl _) _).grown hg2 (by simp) (fun k hk => by simp at hk; omega)
  clear hown hgrow hz hg2
  go_wp2
  go_ret
  exact ⟨v', rfl, HW.out, HB.out⟩

set_option maxHeartbeats 400000 in
theorem words_any (S g : Nat) (ws : List Int) (r mn most : Nat) (w : World) (h : Hid (SK w S g ws r mn most)) :
    Calls Try.prog 20 #[.pointer (some ⟨S, 0, none⟩)] w fun e w' => ∃ v, e = .returned v ∧ w'.ownsRow w.heap.size 2 1 v ws.length (ints ws) ∧ Below w.heap.size w w' := by
  obtain ⟨c0, c1, c2, c3⟩ := h.out.cells
  have hfit := h.out.2.2
  unfold Sk.Fits at hfit
  obtain ⟨h3, h4, h5, h6, h7⟩ := hfit
  have hS := lt_of_block h.out.1
  have n0 : (0 : Int) ≤ (ws.length : Int) := by omega
  have n1 : (ws.length : Int) ≤ (r : Int) := by omega
  go_enter Try.func20, Try.ntmps20
  go_wp2
  go_region_held3 (fun w' => w'.cell? ⟨S, 0, none⟩ = some (.slice (some ⟨g, 0, none⟩) r r) ∧ w'.cell? ⟨S, 1, none⟩ = some (.int .i64 ws.length)) (go_keep) ((go_at_call 27; refine (clone_any g ws r ws.length _ (by exact h.out.2.1) rfl (by omega)).mono ?_; rintro e w1 ⟨v, rfl, hown, hb⟩; have HO : Hid (w1.ownsRow w.heap.size 2 1 v ws.length (ints ws)) := hown; have HB : Hid (Below w.heap.size w w1) := ⟨hb.os, hb.tape, hb.output, hb.size, hb.block⟩; have c0 : w1.cell? ⟨S, 0, none⟩ = some (.slice (some ⟨g, 0, none⟩) r r) := (hb.cell (p := ⟨S, 0, none⟩) hS).trans c0; have c1 : w1.cell? ⟨S, 1, none⟩ = some (.int .i64 ws.length) := (hb.cell (p := ⟨S, 1, none⟩) hS).trans c1; clear hown hb))
  go_wp2
  go_ret
  exact ⟨v, rfl, HO.out, HB.out⟩

end Go.Proofs.Ytnoecaapmcidhaa
