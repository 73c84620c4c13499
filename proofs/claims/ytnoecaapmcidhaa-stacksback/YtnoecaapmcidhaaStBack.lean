/- StacksBack answers true whatever the bounds, the doings and the words: words on top, and as many taken away, leave what there was. No condition. -/
import Derived.Test.YtnoecaapmcidhaaRows
import Derived.Test.YtnoecaapmcidhaaSt16
import Derived.Test.YtnoecaapmcidhaaSt11
import Derived.WalkKit
import Derived.ProofKit
import Derived.OpenShut
import Derived.ReadAgain
import Derived.ChangeBears
import Derived.ChangeOld
import Derived.SizedLaws
namespace Go.Proofs.Ytnoecaapmcidhaa
namespace stacksBack
open Go.ChangeShapes Go.WideShapes Go.ChangeAt Go.RowKit

theorem own : ownKnob Try.prog.godebug = none := by kernel_rfl
theorem kids : Kids Try.prog (· < Try.prog.types.size) := kids_rows (by kernel_rfl) (by kernel_rfl)
theorem full : ∀ t e, t < Try.prog.types.size → Try.prog.underlying t = some (.slice e) → 0 < Try.prog.cellsOf e := slices_full_of Try.prog (by kernel_rfl)

/-- What reads in a world reads the same in a later one that leaves the old blocks alone. -/
theorem again {H : Type} {enc : TypeId × Value → H} {W W' : World} {sp : Nat → Bool} (hb : Below W.heap.size W W') : ∀ {ts : List TypeId} {vs : List Value} {ds : List (DataW H)} {ps : List MemPlace}, DataW.TrodAll enc Try.prog W 0 sp true ts vs ds ps → (∀ p ∈ ps, p.block < W.heap.size) → DataW.TrodAll enc Try.prog W' 0 sp true ts vs ds ps
  | [], [], [], _, h, _ => h
  | _ :: _, _ :: _, _ :: _, _, ⟨p, q, ⟨n, h1⟩, h2, e⟩, hs => ⟨p, q, ⟨n, DataW.trod_carry n _ _ _ h1 (fun x hx => hb.same (hs x (by rw [e]; exact List.mem_append_left _ hx)))⟩, again hb h2 (fun x hx => hs x (by rw [e]; exact List.mem_append_right _ hx)), e⟩

/-- WHAT AN ARGUMENT []int64 IS. -/
theorem ints_open {H : Type} {enc : TypeId × Value → H} {w : World} {base : Nat} {spare : Nat → Bool} {held : Bool} {fuel : Nat} {cs : List Value} {x : DataW H × List MemPlace} (h : DataW.trod enc Try.prog w base spare held fuel 23 cs = some x) :
    ∃ (vs : List Int) (a : Option Addr) (c : Nat), cs = [.slice a vs.length c] ∧ IntsIn w.heap.size w vs a := by
  obtain ⟨L, a, c, hcs, _, hall⟩ := slice_list (n := 1) (fun _ cs' (y : Int) => cs' = [.int .i64 y]) Try.underlying23 cells_i64 (by decide) (fun f cs' x' _ hx' => by
    obtain ⟨k, hk, _, _⟩ := DataW.trod_int Try.underlying2 hx'
    exact ⟨k, hk⟩) h
  refine ⟨L, a, c, hcs, fun i o ho => ?_⟩
  obtain ⟨b, off, cs', f, he, hb, _, _, rfl, hc⟩ := hall i o ho
  have := hc 0 (by decide)
  exact ⟨b, off, he, hb, by simpa using this⟩

set_option maxRecDepth 100000 in
theorem lifted (os : Os) (started : os.Started) (H : Type) (enc : TypeId × Value → H) :
    ReturnsInHanded {} Try.checked os 6 .any (Rows.stacksBackSpec.pre6 enc Try.prog Try.f6 Rows.stacksBackRow.domain false) (Rows.stacksBackSpec.post enc Try.prog Try.f6 false true false false) := by
  refine returnsInHanded_of_change_sized (C := Try.checked) own started (by kernel_rfl) Try.func6
    (ChangeSpec.witness6 (enc := enc) (C := Try.checked) false ⟨#[], #[.int .i64 1, .int .i64 1, .slice none 0 0, .slice none 0 0], []⟩ 8 (by kernel_rfl) (by kernel_rfl) (by kernel_rfl) (by kernel_rfl)) ?_
  intro W base args ds gs before hval0 hW hcnd hsz0 _
  have hval : ∀ (j : Nat) t v, Try.f6.params[j]? = some t → args[j]? = some v → Value.okWide Try.prog W .any base t v := hval0
  have hsz : (DataW.weightsEach Try.prog (Try.f6.params.toList ++ Rows.stacksBackSpec.plain.varTypes Try.prog) (ds ++ gs)).all (· ≤ reachBytes) = true := hsz0
  have hW' := hW
  have hlt := hW.lt
  obtain ⟨p, q, hA0, hV, rfl, hfz, hnd⟩ := hW
  have hA : DataW.TrodAll enc Try.prog W 0 (fun _ => true) true Try.f6.params.toList args.toList ds p := hA0
  have hAk := hA
  rw [Try.params6] at hA hval hsz
  obtain ⟨v0, vs0, d0, ds0, p0, q0, hargs, rfl, rfl, h0, r0⟩ := trodAll_cons hA
  obtain ⟨v1, vs1, d1, ds1, p1, q1, rfl, rfl, rfl, h1, r1⟩ := trodAll_cons r0
  obtain ⟨v2, vs2, d2, ds2, p2, q2, rfl, rfl, rfl, h2, r2⟩ := trodAll_cons r1
  obtain ⟨v3, vs3, d3, ds3, p3, q3, rfl, rfl, rfl, h3, r3⟩ := trodAll_cons r2
  obtain ⟨rfl, rfl, rfl⟩ := trodAll_nil r3
  obtain rfl : args = #[v0, v1, v2, v3] := Array.toList_inj.1 hargs
  obtain ⟨rfl, rfl⟩ := trodVars_none hV
  obtain ⟨n0, rfl⟩ := okWide_int Try.underlying3 (hval 0 3 v0 rfl rfl)
  obtain ⟨n1, rfl⟩ := okWide_int Try.underlying3 (hval 1 3 v1 rfl rfl)
  obtain ⟨a2, len, cap, rfl⟩ := okWide_slice Try.underlying22 (hval 2 22 v2 rfl rfl)
  obtain ⟨a3, len3, cap3, rfl⟩ := okWide_slice Try.underlying23 (hval 3 23 v3 rfl rfl)
  obtain ⟨fuel, hf⟩ := h2
  obtain ⟨fuel3, hf3⟩ := h3
  obtain ⟨L, a, c, hcs, hin⟩ := ops_open hf
  obtain ⟨vs, a', c', hcs', hin'⟩ := ints_open hf3
  have hlen := slice_len (R := reachBytes) (bytes := 24) Try.underlying22 hf (fun el sp e => by
    have := sized_slice hsz (j := 2) (t := 22) (e := 36) (elems := el) (spare := sp) rfl (by rw [e]; rfl) Try.underlying22
    rw [bytes_op] at this
    exact this)
  have hlen3 := slice_len (R := reachBytes) (bytes := 8) Try.underlying23 hf3 (fun el sp e => by
    have := sized_slice hsz (j := 3) (t := 23) (e := 2) (elems := el) (spare := sp) rfl (by rw [e]; rfl) Try.underlying23
    rw [bytes_i64] at this
    exact this)
  have hnil : a2 = none → cap = 0 := by
    rintro rfl
    rcases DataW.trod_slice Try.underlying22 hf with ⟨h1, _⟩ | ⟨a', len', cap', elems, rest, k, _, h1, _⟩
    · simp [Value.cells] at h1; exact h1.2
    · simp [Value.cells] at h1
  simp [Value.cells] at hcs hcs'
  obtain ⟨rfl, rfl, rfl⟩ := hcs
  obtain ⟨rfl, rfl, rfl⟩ := hcs'
  simp only [List.append_nil] at hW'
  refine (stacksBack_any n0 n1 L a2 cap vs a3 cap3 W hin hnil hin' (by simpa [reachBytes] using hlen) (by simp [reachBytes] at hlen3; omega)).mono fun e W' ⟨he, bel⟩ => ?_
  subst he
  have hargs2 : DataW.TrodAll enc Try.prog W 0 (fun b => decide (b < W.heap.size)) true Try.f6.params.toList #[Value.int .i64 n0, .int .i64 n1, .slice a2 L.length cap, .slice a3 vs.length cap3].toList [d0, d1, d2, d3] (p0 ++ (p1 ++ (p2 ++ (p3 ++ [])))) := DataW.TrodAll.respare kids full (by rw [Try.params6]; decide) hAk (fun x hx => by simpa using hlt x (by simpa using hx))
  exact ⟨_, rfl, _, _, _, [], _, [], hW', (trodAll_cons_mk (shut_bool Try.underlying4 _) trodAll_mk0), again bel hargs2 (fun x hx => hlt x (by simpa using hx)), rfl, bel.frame _, fun h => by cases h⟩

theorem over : Rows.stacksBackRow.holds Try.pinned (OpenSpec.ofChange Rows.stacksBackSpec) :=
  OpenClaim.holds_of_wide 6 Try.f6 rfl rfl rfl rfl rfl rfl rfl ⟨rfl, rfl, rfl, rfl, rfl⟩ rfl rfl rfl rfl rfl (by kernel_rfl) Try.func6 (by kernel_rfl)
    (of_decide_eq_true (by kernel_rfl)) (by unfold Func.isWrapper; first | (rw [if_pos (by decide +kernel)]; kernel_rfl) | (rw [if_neg (by decide +kernel)]; exact ⟨rfl, rfl⟩))
    (fun os started H enc _ => lifted os started H enc)

end stacksBack

theorem stacksBack_holds : Rows.StacksBackSaid := stacksBack.over
#print axioms stacksBack_holds
end Go.Proofs.Ytnoecaapmcidhaa
