/- SoloGrows answers true whatever the module, the task, the feeds, what more is fed and the number of steps, where they are together of bulk at most 1048576: who is fed more says no less. The condition: that bound (beyond it the law itself may lay a row that no memory bears). -/
import Derived.Test.YtnfbfdajdflfgaaRows
import Derived.Test.YtnfbfdajdflfgaaM52
import Derived.Test.YtnfbfdajdflfgaaM53
import Derived.JoinedCond
import Derived.WalkKit
import Derived.ProofKit
import Derived.OpenShut
import Derived.ReadAgain
import Derived.ChangeBears
import Derived.ChangeOld
import Derived.SizedLaws
namespace Go.Proofs.Ytnfbfdajdflfgaa
namespace soloGrows
open Go.ChangeShapes Go.WideShapes Go.ChangeAt Go.RowKit

theorem own : ownKnob Try.prog.godebug = none := by kernel_rfl
theorem kids : Kids Try.prog (· < Try.prog.types.size) := kids_rows (by kernel_rfl) (by kernel_rfl)
theorem full : ∀ t e, t < Try.prog.types.size → Try.prog.underlying t = some (.slice e) → 0 < Try.prog.cellsOf e := slices_full_of Try.prog (by kernel_rfl)

/-- What reads in a world reads the same in a later one that leaves the old blocks alone. -/
theorem again {H : Type} {enc : TypeId × Value → H} {W W' : World} {sp : Nat → Bool} (hb : Below W.heap.size W W') : ∀ {ts : List TypeId} {vs : List Value} {ds : List (DataW H)} {ps : List MemPlace}, DataW.TrodAll enc Try.prog W 0 sp true ts vs ds ps → (∀ p ∈ ps, p.block < W.heap.size) → DataW.TrodAll enc Try.prog W' 0 sp true ts vs ds ps
  | [], [], [], _, h, _ => h
  | _ :: _, _ :: _, _ :: _, _, ⟨p, q, ⟨n, h1⟩, h2, e⟩, hs => ⟨p, q, ⟨n, DataW.trod_carry n _ _ _ h1 (fun x hx => hb.same (hs x (by rw [e]; exact List.mem_append_left _ hx)))⟩, again hb h2 (fun x hx => hs x (by rw [e]; exact List.mem_append_right _ hx)), e⟩

theorem bulk_pos {H : Type} (d : DataW H) : 1 ≤ Rows.uptoBulk d := by
  cases d with
  | lit l => cases l <;> simp [Rows.uptoBulk]
  | nil => simp [Rows.uptoBulk]
  | ptr d => simp [Rows.uptoBulk]
  | slice e s => simp [Rows.uptoBulk]
  | agg p => simp [Rows.uptoBulk]
  | iface n d => simp [Rows.uptoBulk]
  | map e => simp [Rows.uptoBulk]
  | held h => simp [Rows.uptoBulk]
theorem bulk_len {H : Type} : ∀ l : List (DataW H), l.length ≤ Rows.uptoBulkAll l
  | [] => Nat.zero_le _
  | d :: l => by have := bulk_len l; have := bulk_pos d; simp [Rows.uptoBulkAll]; omega
theorem bulk_mem {H : Type} : ∀ {l : List (DataW H)} {d : DataW H}, d ∈ l → Rows.uptoBulk d ≤ Rows.uptoBulkAll l
  | a :: l, d, h => by
    simp only [Rows.uptoBulkAll]
    rcases List.mem_cons.1 h with rfl | h
    · omega
    · have := bulk_mem h; omega
theorem bulk_slice {H : Type} {el sp : List (DataW H)} (h : Rows.uptoBulk (.slice el sp) ≤ 1048576) : el.length ≤ 1048576 ∧ ∀ d ∈ el, Rows.uptoBulk d ≤ 1048576 := by
  simp only [Rows.uptoBulk] at h
  have := bulk_len el
  exact ⟨by omega, fun d hd => by have := bulk_mem hd; omega⟩

set_option maxRecDepth 100000 in
set_option maxHeartbeats 1000000 in
theorem lifted (os : Os) (started : os.Started) (H : Type) (enc : TypeId × Value → H) (F : Stop.Interp) :
    ReturnsInHanded {} Try.checked os 4 .any ((Rows.OpenSpec.upto Rows.soloGrowsSpec).pre6 enc Try.prog Try.f4 Rows.soloGrowsUptoRow.domain false) (((Rows.OpenSpec.upto Rows.soloGrowsSpec).at F).post enc Try.prog Try.f4 false true false false) := by
  refine returnsInHanded_of_cond (C := Try.checked) (s := Rows.OpenSpec.upto Rows.soloGrowsSpec) (k := Rows.uptoSmall) rfl own started (by kernel_rfl) Try.func4
    (OpenSpec.witness (enc := enc) (C := Try.checked) (s := Rows.OpenSpec.upto Rows.soloGrowsSpec) (k := Rows.uptoSmall) rfl false ⟨#[], #[.agg #[.slice none 0 0, .slice none 0 0], .int .i64 0, .slice none 0 0, .slice none 0 0, .int .i64 0], []⟩ 8 (by kernel_rfl) (by kernel_rfl) (by kernel_rfl)
      (x := ([.agg [.nil, .nil], .lit (.int .i64 0), .nil, .nil, .lit (.int .i64 0)], [], [])) (by kernel_rfl) rfl (by kernel_rfl)) ?_
  intro W base args ds gs before hval0 hW _ hk _
  have hval : ∀ (j : Nat) t v, Try.f4.params[j]? = some t → args[j]? = some v → Value.okWide Try.prog W .any base t v := hval0
  have hW' := hW
  have hlt := hW.lt
  obtain ⟨p, q, hA0, hV, rfl, hfz, hnd⟩ := hW
  have hA : DataW.TrodAll enc Try.prog W 0 (fun _ => true) true Try.f4.params.toList args.toList ds p := hA0
  have hAk := hA
  rw [Try.params4] at hA hval
  obtain ⟨v0, vs0, d0, ds0, p0, q0, hargs, rfl, rfl, h0, r0⟩ := trodAll_cons hA
  obtain ⟨v1, vs1, d1, ds1, p1, q1, rfl, rfl, rfl, h1, r1⟩ := trodAll_cons r0
  obtain ⟨v2, vs2, d2, ds2, p2, q2, rfl, rfl, rfl, h2, r2⟩ := trodAll_cons r1
  obtain ⟨v3, vs3, d3, ds3, p3, q3, rfl, rfl, rfl, h3, r3⟩ := trodAll_cons r2
  obtain ⟨v4, vs4, d4, ds4, p4, q4, rfl, rfl, rfl, h4, r4⟩ := trodAll_cons r3
  obtain ⟨rfl, rfl, rfl⟩ := trodAll_nil r4
  obtain rfl : args = #[v0, v1, v2, v3, v4] := Array.toList_inj.1 hargs
  obtain ⟨rfl, rfl⟩ := trodVars_none hV
  obtain ⟨cs0, rfl, _⟩ := okWide_struct Try.underlying25 (hval 0 25 v0 rfl rfl)
  obtain ⟨n1, rfl⟩ := okWide_int Try.underlying3 (hval 1 3 v1 rfl rfl)
  obtain ⟨a2, len2, cap2, rfl⟩ := okWide_slice Try.underlying26 (hval 2 26 v2 rfl rfl)
  obtain ⟨a3, len3, cap3, rfl⟩ := okWide_slice Try.underlying26 (hval 3 26 v3 rfl rfl)
  obtain ⟨n4, rfl⟩ := okWide_int Try.underlying3 (hval 4 3 v4 rfl rfl)
  obtain ⟨f0, hf0⟩ := h0
  obtain ⟨f2, hf2⟩ := h2
  obtain ⟨f3, hf3⟩ := h3
  obtain ⟨m, ab, cb, au, cu, hcs, hin⟩ := mod_open hf0
  have hbk : Rows.uptoBulkAll [d0, d1, d2, d3, d4] ≤ 1048576 := of_decide_eq_true (show decide (Rows.uptoBulkAll ([d0, d1, d2, d3, d4] ++ []) ≤ 1048576) = true from hk)
  have hb2 : Rows.uptoBulk d2 ≤ 1048576 := Nat.le_trans (bulk_mem (by simp)) hbk
  have hb3 : Rows.uptoBulk d3 ≤ 1048576 := Nat.le_trans (bulk_mem (by simp)) hbk
  obtain ⟨fs, fsa, fsc, fa, fc, hfcs, hfn, hff, hfd⟩ := Vw.feeds_open (N1 := 1048576) (N2 := 1048576) (fun d => Rows.uptoBulk d ≤ 1048576) (fun d => Rows.uptoBulk d ≤ 1048576) (fun el sp h => bulk_slice h) (fun el sp h => (bulk_slice h).1) (by decide) (by decide) hf2 hb2
  obtain ⟨ls, lsa, lsc, la, lc, hlcs, hln, hll, hld⟩ := Vw.feeds_open (N1 := 1048576) (N2 := 1048576) (fun d => Rows.uptoBulk d ≤ 1048576) (fun d => Rows.uptoBulk d ≤ 1048576) (fun el sp h => bulk_slice h) (fun el sp h => (bulk_slice h).1) (by decide) (by decide) hf3 hb3
  simp [Value.cells] at hcs hfcs hlcs
  obtain ⟨rfl, rfl, rfl⟩ := hfcs
  obtain ⟨rfl, rfl, rfl⟩ := hlcs
  obtain rfl : cs0 = #[.slice ab m.boxes.length cb, .slice au m.units.length cu] := Array.toList_inj.1 (by simpa using hcs)
  simp only [List.append_nil] at hW'
  refine (Vw.grows_any m ab au cb cu fs ls a2 cap2 fa fc a3 cap3 la lc W hin hfd hld hfn hff hll n1 n4).mono fun e W' ⟨he, bel⟩ => ?_
  subst he
  have hargs2 : DataW.TrodAll enc Try.prog W 0 (fun b => decide (b < W.heap.size)) true Try.f4.params.toList #[Value.agg #[.slice ab m.boxes.length cb, .slice au m.units.length cu], .int .i64 n1, .slice a2 fs.length cap2, .slice a3 ls.length cap3, .int .i64 n4].toList [d0, d1, d2, d3, d4] (p0 ++ (p1 ++ (p2 ++ (p3 ++ (p4 ++ []))))) := DataW.TrodAll.respare kids full (by rw [Try.params4]; decide) hAk (fun x hx => by simpa using hlt x (by simpa using hx))
  exact ⟨_, rfl, _, _, _, [], _, [], hW', (trodAll_cons_mk (shut_bool Try.underlying4 _) trodAll_mk0), again bel hargs2 (fun x hx => hlt x (by simpa using hx)), rfl, bel.frame _, fun h => by cases h⟩

theorem over : Rows.soloGrowsUptoRow.holds Try.pinned (Rows.OpenSpec.upto Rows.soloGrowsSpec) :=
  OpenClaim.holds_of_cond 4 Try.f4 rfl rfl rfl rfl rfl rfl rfl ⟨rfl, rfl, rfl, rfl, rfl⟩ rfl rfl rfl rfl rfl (by kernel_rfl) Try.func4 (by kernel_rfl)
    (of_decide_eq_true (by kernel_rfl)) (by unfold Func.isWrapper; first | (rw [if_pos (by decide +kernel)]; kernel_rfl) | (rw [if_neg (by decide +kernel)]; exact ⟨rfl, rfl⟩))
    (fun os started H enc _ F => lifted os started H enc F)

end soloGrows

theorem soloGrows_holds : Rows.SoloGrowsUptoSaid := soloGrows.over
#print axioms soloGrows_holds
end Go.Proofs.Ytnfbfdajdflfgaa

