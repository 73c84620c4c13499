/- VerifyTells answers true whatever the module: what Verify tells of it is what the document's own answer tells, the error, the unit and the place. No condition. -/
import Derived.Test.YtbkimpimoclobaaRows
import Derived.Test.YtbkimpimoclobaaM40
import Derived.Test.YtbkimpimoclobaaM22
import Derived.WalkKit
import Derived.ProofKit
import Derived.OpenShut
import Derived.ReadAgain
import Derived.ChangeBears
import Derived.ChangeOld
import Derived.SizedLaws
namespace Go.Proofs.Ytbkimpimoclobaa
open Go.RowKit

set_option maxRecDepth 100000 in
set_option maxHeartbeats 2000000 in
theorem vtells_any (m : Vf.Md) (ab au : Option Addr) (cb cu : Nat) (w : World) (hmd : ModIn w.heap.size w m ab au) :
    Calls Try.prog 3 #[mdV m ab au cb cu] w fun e w' => e = .returned (.bool true) ∧ w.grownBy w' none := by
  obtain ⟨⟨ra, rb, rc⟩, hr⟩ : ∃ r, r = Vf.verify m := ⟨_, rfl⟩
  have HR := hide hr
  have HMD := hide hmd
  obtain ⟨W0, hW0⟩ : ∃ W0 : World, w.alloc (amO m ab au cb cu) = W0 := ⟨_, rfl⟩
  have HG0 : Hid (w.grownBy W0 none) := by rw [← hW0]; exact grown0_new (World.grownBy.refl _ _) _
  have HB0 : Hid (W0.heap[w.heap.size]? = some (amO m ab au cb cu)) := by rw [← hW0]; exact heap_alloc_new _ _
  have HM0 : Hid (ModIn w.heap.size W0 m ab au) := hmd.low (low0 HG0.out (Nat.le_refl _))
  obtain ⟨m0, m1, _⟩ := am_cells HB0.out
  have hz0 := lt_of_block HB0.out
  have hq : ∀ w : World, (Op.equalIn 10000 28 (whV ra rb rc) (whV ra rb rc)).run Try.prog w = .ok true w := fun w => by
    rw [eq_where ra rb rc ra rb rc w]
    simp
  clear hr hmd
  go_enter Try.func3, Try.ntmps3
  go_wp2_with fail
  go_region_held3 (fun w' => w'.cell? ⟨w.heap.size, 0, none⟩ = some (.slice ab m.boxes.length cb) ∧ w'.cell? ⟨w.heap.size, 1, none⟩ = some (.slice au m.units.length cu)) (go_keep) (first | (have hx1 := HG2.out; go_at_call 7; refine (rverify_any m ab au cb cu w.heap.size _ (hide (HM0.out.low (low0 HG2.out (by omega)))) (by have := HG2.out.size; omega) (ra, rb, rc) HR).mono ?_; rintro e w4 ⟨rfl, hg4⟩; have HG4 : Hid (W0.grownBy w4 none) := grown0_tr' HG2.out hg4; obtain ⟨g0, g1, _⟩ := am_cells ((kept0 HG4.out (lt_of_block HB0.out)).trans HB0.out); clear hg4 hx1) | (go_at_call 6; refine (verify_any m ab au cb cu w.heap.size W0.drew (hide (HM0.out.low (fun _ _ => rfl))) (by show w.heap.size ≤ W0.heap.size; omega) (ra, rb, rc) HR).mono ?_; rintro e w2 ⟨rfl, hg2'⟩; have HG2 : Hid (W0.grownBy w2 none) := grown_drew hg2'; obtain ⟨g0, g1, _⟩ := am_cells ((kept0 HG2.out (lt_of_block HB0.out)).trans HB0.out); clear hg2'))
  go_wp2
  go_ret
  exact ⟨rfl, grown0_tr' HG0.out HG4.out⟩

namespace verifyTells
open Go.ChangeShapes Go.WideShapes Go.ChangeAt Go.RowKit

theorem own : ownKnob Try.prog.godebug = none := by kernel_rfl
theorem kids : Kids Try.prog (· < Try.prog.types.size) := kids_rows (by kernel_rfl) (by kernel_rfl)
theorem full : ∀ t e, t < Try.prog.types.size → Try.prog.underlying t = some (.slice e) → 0 < Try.prog.cellsOf e := slices_full_of Try.prog (by kernel_rfl)

/-- What reads in a world reads the same in a later one that leaves the old blocks alone. -/
theorem again {H : Type} {enc : TypeId × Value → H} {W W' : World} {sp : Nat → Bool} (hb : Below W.heap.size W W') : ∀ {ts : List TypeId} {vs : List Value} {ds : List (DataW H)} {ps : List MemPlace}, DataW.TrodAll enc Try.prog W 0 sp true ts vs ds ps → (∀ p ∈ ps, p.block < W.heap.size) → DataW.TrodAll enc Try.prog W' 0 sp true ts vs ds ps
  | [], [], [], _, h, _ => h
  | _ :: _, _ :: _, _ :: _, _, ⟨p, q, ⟨n, h1⟩, h2, e⟩, hs => ⟨p, q, ⟨n, DataW.trod_carry n _ _ _ h1 (fun x hx => hb.same (hs x (by rw [e]; exact List.mem_append_left _ hx)))⟩, again hb h2 (fun x hx => hs x (by rw [e]; exact List.mem_append_right _ hx)), e⟩

set_option maxRecDepth 100000 in
set_option maxHeartbeats 1000000 in
theorem lifted (os : Os) (started : os.Started) (H : Type) (enc : TypeId × Value → H) :
    ReturnsInHanded {} Try.checked os 3 .any (Rows.verifyTellsSpec.pre6 enc Try.prog Try.f3 Rows.verifyTellsRow.domain false) (Rows.verifyTellsSpec.post enc Try.prog Try.f3 false true false false) := by
  refine returnsInHanded_of_change_sized (C := Try.checked) own started (by kernel_rfl) Try.func3
    (ChangeSpec.witness6 (enc := enc) (C := Try.checked) false ⟨#[], #[.agg #[.slice none 0 0, .slice none 0 0]], []⟩ 8 (by kernel_rfl) (by kernel_rfl) (by kernel_rfl) (by kernel_rfl)) ?_
  intro W base args ds gs before hval0 hW hcnd _ _
  have hval : ∀ (j : Nat) t v, Try.f3.params[j]? = some t → args[j]? = some v → Value.okWide Try.prog W .any base t v := hval0
  have hW' := hW
  have hlt := hW.lt
  obtain ⟨p, q, hA0, hV, rfl, hfz, hnd⟩ := hW
  have hA : DataW.TrodAll enc Try.prog W 0 (fun _ => true) true Try.f3.params.toList args.toList ds p := hA0
  have hAk := hA
  rw [Try.params3] at hA hval
  obtain ⟨v0, vs0, d0, ds0, p0, q0, hargs, rfl, rfl, h0, r0⟩ := trodAll_cons hA
  obtain ⟨rfl, rfl, rfl⟩ := trodAll_nil r0
  obtain rfl : args = #[v0] := Array.toList_inj.1 hargs
  obtain ⟨rfl, rfl⟩ := trodVars_none hV
  obtain ⟨cs0, rfl, _⟩ := okWide_struct Try.underlying25 (hval 0 25 v0 rfl rfl)
  obtain ⟨f0, hf0⟩ := h0
  obtain ⟨m, ab, cb, au, cu, hcs, hin⟩ := mod_open hf0
  simp [Value.cells] at hcs
  obtain rfl : cs0 = #[.slice ab m.boxes.length cb, .slice au m.units.length cu] := Array.toList_inj.1 (by simpa using hcs)
  simp only [List.append_nil] at hW'
  refine (vtells_any m ab au cb cu W hin).mono fun e W' ⟨he, hgr⟩ => ?_
  subst he
  have bel := below_of_grown hgr
  have hargs2 : DataW.TrodAll enc Try.prog W 0 (fun b => decide (b < W.heap.size)) true Try.f3.params.toList #[Value.agg #[.slice ab m.boxes.length cb, .slice au m.units.length cu]].toList [d0] (p0 ++ []) := DataW.TrodAll.respare kids full (by rw [Try.params3]; decide) hAk (fun x hx => by simpa using hlt x (by simpa using hx))
  exact ⟨_, rfl, _, _, _, [], _, [], hW', (trodAll_cons_mk (shut_bool Try.underlying4 _) trodAll_mk0), again bel hargs2 (fun x hx => hlt x (by simpa using hx)), rfl, bel.frame _, fun h => by cases h⟩

theorem over : Rows.verifyTellsRow.holds Try.pinned (OpenSpec.ofChange Rows.verifyTellsSpec) :=
  OpenClaim.holds_of_wide 3 Try.f3 rfl rfl rfl rfl rfl rfl rfl ⟨rfl, rfl, rfl, rfl, rfl⟩ rfl rfl rfl rfl rfl (by kernel_rfl) Try.func3 (by kernel_rfl)
    (of_decide_eq_true (by kernel_rfl)) (by unfold Func.isWrapper; first | (rw [if_pos (by decide +kernel)]; kernel_rfl) | (rw [if_neg (by decide +kernel)]; exact ⟨rfl, rfl⟩))
    (fun os started H enc _ => lifted os started H enc)

end verifyTells

theorem verifyTells_holds : Rows.VerifyTellsSaid := verifyTells.over
#print axioms verifyTells_holds
end Go.Proofs.Ytbkimpimoclobaa

