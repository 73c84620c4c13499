/- The document's answer, chapter 7, walked: WHAT ITS Needs ANSWERS; bad. -/
import Derived.Test.YtfhombcgdkgcpaaVcS12
import Derived.Test.YtfhombcgdkgcpaaVcS14
import Derived.Laws.AppendOwnNone
import Derived.Laws.MakeOwn
import Derived.Laws.OwnMore
import Derived.Deep.DeepCutAuto
namespace Go.Proofs.Ytfhombcgdkgcpaa
open Go.RowKit

theorem callee_of {m : Vf.Md} (hR : Rt m) {kd a : Int} (h : Vf.is m kd a = true) : Callee m a (Vf.unit m a) ∧ (Vf.unit m a).kind = kd ∧ Vf.headE m (Vf.unit m a) = 0 ∧ 0 ≤ a ∧ a < 30 := by
  obtain ⟨q, rfl, hq2, hq3⟩ := is_unit h
  have hh := (hR.heads q _ hq2).1
  obtain ⟨z1, z2, z3, z4, z5, z6⟩ := sized_true (headE_zero hh).2.1
  have hl := (List.getElem?_eq_some_iff.1 hq2).1
  have := hR.units
  exact ⟨⟨by simpa using hq2, by omega, z2, z4, z3, fun t ht => Vf.okt_lt hR.units ((typed_of hh).2.2 t ht)⟩, hq3, hh, by omega, by omega⟩

set_option maxRecDepth 100000 in
set_option maxHeartbeats 1000000 in
theorem rneeds_any (m : Vf.Md) (ab au : Option Addr) (cb cu B : Nat) (u : Vf.Un) (al ac : Option Addr) (cl cc : Nat) (op a n : Int) (w : World) (hmd : Hid (ModIn B w m ab au)) (hun : Hid (UnIn B w u al ac cl cc)) (hB : B ≤ w.heap.size) (hR : Hid (Rt m)) (hu : Hid (Vf.headE m u = 0)) (hf : Hid (Vf.formE m u ⟨op, a, n⟩ = 0)) (hk : Hid (¬ Vf.early u ⟨op, a, n⟩)) :
    Calls Try.prog 32 #[mdV m ab au cb cu, runV u al ac cl cc, rinV op a n] w fun e w' => NdE (Vf.needs m u ⟨op, a, n⟩) e ∧ w.grownBy w' none := by
  obtain ⟨h1, h32, hrg⟩ := formE_zero hf.out
  obtain ⟨t1, t2, t3⟩ := typed_of hu.out
  have h1' : 1 ≤ op := h1
  have h32' : op ≤ 32 := h32
  have hloc : op = 3 ∨ op = 4 → ∃ t, u.locals[a.toNat]? = some t ∧ 0 ≤ a ∧ Vf.Lt t ∧ Vf.localTy u a = t := by
    intro ho
    have hr := hrg
    unfold Vf.ranged at hr
    rw [if_neg (by show ¬ op = 2; omega), if_pos (show op = 3 ∨ op = 4 from ho)] at hr
    simp at hr
    have hlen : a.toNat < u.locals.length := by omega
    refine ⟨_, List.getElem?_eq_getElem hlen, hr.1, Vf.okt_lt hR.out.units (t3 _ (List.getElem_mem hlen)), ?_⟩
    unfold Vf.localTy
    rw [List.getElem?_eq_getElem hlen]
    rfl
  have hbox : op = 26 ∨ op = 27 → ∃ x, m.boxes[a.toNat]? = some x ∧ 0 ≤ a ∧ Vf.Lt x.ty ∧ Vf.boxTy m a = x.ty := by
    intro ho
    have hr := hrg
    unfold Vf.ranged at hr
    rw [if_neg (by show ¬ op = 2; omega), if_neg (by show ¬ (op = 3 ∨ op = 4); omega), if_neg (by show ¬ (op = 21 ∨ op = 22); omega), if_neg (by show ¬ op = 23; omega), if_neg (by show ¬ op = 29; omega), if_pos (show op = 26 ∨ op = 27 from ho)] at hr
    simp at hr
    have hlen : a.toNat < m.boxes.length := by omega
    refine ⟨_, List.getElem?_eq_getElem hlen, hr.1, Vf.lt_plain (hR.out.boxes _ _ (List.getElem?_eq_getElem hlen)), ?_⟩
    unfold Vf.boxTy
    rw [List.getElem?_eq_getElem hlen]
    rfl
  have hcall : op = 23 → Vf.is m 2 a = true := by
    intro ho
    have hr := hrg
    unfold Vf.ranged at hr
    rw [if_neg (by show ¬ op = 2; omega), if_neg (by show ¬ (op = 3 ∨ op = 4); omega), if_neg (by show ¬ (op = 21 ∨ op = 22); omega), if_pos (show op = 23 from ho)] at hr
    exact hr
  have hstart : op = 29 → Vf.is m 3 a = true := by
    intro ho
    have hr := hrg
    unfold Vf.ranged at hr
    rw [if_neg (by show ¬ op = 2; omega), if_neg (by show ¬ (op = 3 ∨ op = 4); omega), if_neg (by show ¬ (op = 21 ∨ op = 22); omega), if_neg (by show ¬ op = 23; omega), if_pos (show op = 29 from ho)] at hr
    exact hr
  have hkk := hk.out
  unfold Vf.early at hkk
  simp only at hkk
  clear h1 h32 hrg hk
  have hall : op = 1 ∨ op = 2 ∨ op = 3 ∨ op = 4 ∨ op = 5 ∨ op = 6 ∨ op = 7 ∨ op = 8 ∨ op = 9 ∨ op = 10 ∨ op = 11 ∨ op = 12 ∨ op = 13 ∨ op = 14 ∨ op = 15 ∨ op = 16 ∨ op = 17 ∨ op = 18 ∨ op = 19 ∨ op = 20 ∨ op = 21 ∨ op = 22 ∨ op = 23 ∨ op = 24 ∨ op = 25 ∨ op = 26 ∨ op = 27 ∨ op = 28 ∨ op = 29 ∨ op = 30 ∨ op = 31 ∨ op = 32 := by omega
  rcases hall with rfl | rfl | rfl | rfl | rfl | rfl | rfl | rfl | rfl | rfl | rfl | rfl | rfl | rfl | rfl | rfl | rfl | rfl | rfl | rfl | rfl | rfl | rfl | rfl | rfl | rfl | rfl | rfl | rfl | rfl | rfl | rfl
  · exact rneeds_1 m ab au cb cu u al ac cl cc a n w
  · exact rneeds_2 m ab au cb cu u al ac cl cc a n w
  · obtain ⟨t, e1, e2, e3, e4⟩ := hloc (by decide)
    have en : Vf.needs m u ⟨3, a, n⟩ = ([], [Vf.ltr t]) := by rw [← e4]; rfl
    rw [en]
    exact rneeds_3 m ab au cb cu u al ac cl cc a n w B hun hB t e2 e1 e3
  · obtain ⟨t, e1, e2, e3, e4⟩ := hloc (by decide)
    have en : Vf.needs m u ⟨4, a, n⟩ = ([Vf.ltr t], []) := by rw [← e4]; rfl
    rw [en]
    exact rneeds_4 m ab au cb cu u al ac cl cc a n w B hun hB t e2 e1 e3
  · exact rneeds_5 m ab au cb cu u al ac cl cc a n w
  · exact rneeds_6 m ab au cb cu u al ac cl cc a n w
  · exact rneeds_7 m ab au cb cu u al ac cl cc a n w
  · exact rneeds_8 m ab au cb cu u al ac cl cc a n w
  · exact rneeds_9 m ab au cb cu u al ac cl cc a n w
  · exact rneeds_10 m ab au cb cu u al ac cl cc a n w
  · exact rneeds_11 m ab au cb cu u al ac cl cc a n w
  · exact rneeds_12 m ab au cb cu u al ac cl cc a n w
  · exact rneeds_13 m ab au cb cu u al ac cl cc a n w
  · exact rneeds_14 m ab au cb cu u al ac cl cc a n w
  · exact rneeds_15 m ab au cb cu u al ac cl cc a n w
  · exact rneeds_16 m ab au cb cu u al ac cl cc a n w
  · exact rneeds_17 m ab au cb cu u al ac cl cc a n w
  · exact rneeds_18 m ab au cb cu u al ac cl cc a n w
  · exact rneeds_19 m ab au cb cu u al ac cl cc a n w
  · exact rneeds_20 m ab au cb cu u al ac cl cc a n w
  · exact rneeds_21 m ab au cb cu u al ac cl cc a n w
  · exact rneeds_22 m ab au cb cu u al ac cl cc a n w
  · obtain ⟨e1, e2, e3, _⟩ := callee_of hR.out (hcall rfl)
    exact rneeds_23 m ab au cb cu u al ac cl cc a n w B hmd hB _ (hide e1) (Vf.lt_plain ((typed_of e3).1.resolve_left (by omega)))
  · exact rneeds_24 m ab au cb cu u al ac cl cc a n w (Vf.lt_plain (t1.resolve_left (by omega)))
  · exact rneeds_25 m ab au cb cu u al ac cl cc a n w
  · obtain ⟨x, e1, e2, e3, e4⟩ := hbox (by decide)
    have en : Vf.needs m u ⟨26, a, n⟩ = ([Vf.ltr x.ty], []) := by rw [← e4]; rfl
    rw [en]
    exact rneeds_26 m ab au cb cu u al ac cl cc a n w B hmd hB x e2 e1 e3
  · obtain ⟨x, e1, e2, e3, e4⟩ := hbox (by decide)
    have en : Vf.needs m u ⟨27, a, n⟩ = ([], [Vf.ltr x.ty]) := by rw [← e4]; rfl
    rw [en]
    exact rneeds_27 m ab au cb cu u al ac cl cc a n w B hmd hB x e2 e1 e3
  · exact rneeds_28 m ab au cb cu u al ac cl cc a n w
  · obtain ⟨e1, e2, e3, e4, e5⟩ := callee_of hR.out (hstart rfl)
    exact rneeds_29 m ab au cb cu u al ac cl cc a n w B hmd hB _ (hide e1) (.inr (.inr ⟨by omega, by omega⟩))
  · exact rneeds_30 m ab au cb cu u al ac cl cc a n w
  · exact rneeds_31 m ab au cb cu u al ac cl cc a n w (Vf.lt_plain (t1.resolve_left (by omega))) (Vf.lt_plain (t2.resolve_left (by omega)))
  · exact rneeds_32 m ab au cb cu u al ac cl cc a n w

/-- What bad answers. -/
theorem rbad_any (KB AT : Nat) (er k n : Int) (w : World) (hk : Hid (w.cell? ⟨KB, 0, none⟩ = some (.int .i64 k))) (hn : Hid (w.cell? ⟨AT, 0, none⟩ = some (.int .i64 n))) (h1 : KB < w.heap.size) (h2 : AT < w.heap.size) :
    Calls Try.prog 31 #[.int .i64 er, .pointer (some ⟨KB, 0, none⟩), .pointer (some ⟨AT, 0, none⟩)] w fun e w' => e = .returned (whV er k n) ∧ w.grownBy w' none := by
  have c1 := hk.out
  have c2 := hn.out
  go_enter Try.func31, Try.ntmps31
  go_wp2
  refine bodyPost_ret (v := whV er k n) (by simp [results, Try.results31, go_sem]) rfl ?_
  exact ⟨rfl, grown0_new (World.grownBy.refl _ _) _⟩
end Go.Proofs.Ytfhombcgdkgcpaa
/- The document's Code in memory: what was seen, rows of truths, the row of what is to be looked at. -/
namespace Go.Proofs.Ytfhombcgdkgcpaa
open Go.RowKit

theorem Try.infobool : (Try.prog.info? 4).map (fun i => (i.zero, i.size, i.bytes)) = some (some (.bool false), 1, 1) := by kernel_rfl
theorem Try.infoseen : (Try.prog.info? 75).map (fun i => (i.zero, i.size, i.bytes)) = some (some (.agg #[.bool false, .string ⟨#[]⟩, .slice none 0 0]), 3, 48) := by kernel_rfl

abbrev bools (l : List Bool) : List Value := l.map Value.bool
/-- A row of truths of one's own. -/
abbrev BR (w : World) (C : Nat) (v : Value) (l : List Bool) : Prop := w.ownsRow C 4 1 v l.length (bools l)
theorem br_keep {w w' : World} {C : Nat} {v : Value} {l : List Bool} (h : BR w C v l) (hk : ∀ g cs, v.ownBlock = some g → w.heap[g]? = some (.cells cs 4 (0, 0)) → w'.heap[g]? = w.heap[g]?) : BR w' C v l := by
  refine ⟨h.1, ?_⟩
  rcases h.2 with h1 | ⟨g, cap, cur, rfl, h2, h3, h4⟩
  · exact .inl h1
  · exact .inr ⟨g, cap, cur, rfl, h2, (hk g _ rfl h3).trans h3, h4⟩
theorem br_grown {w w' : World} {C : Nat} {v : Value} {l : List Bool} (h : BR w C v l) (hg : w.grownBy w' none) : BR w' C v l := br_keep h (fun _ _ _ hc => kept0 hg (lt_of_block hc))
theorem br_ty {w : World} {C g : Nat} {v : Value} {l : List Bool} (h : BR w C v l) (hg : v.ownBlock = some g) : C ≤ g ∧ ∃ cs, w.heap[g]? = some (.cells cs 4 (0, 0)) := by
  rcases h.2 with ⟨rfl, _⟩ | ⟨g', cap, cur, rfl, h2, h3, h4⟩
  · cases hg
  · cases hg
    exact ⟨h2, _, h3⟩
theorem br_base {w : World} {B C : Nat} {v : Value} {l : List Bool} (h : BR w C v l) (hB : B ≤ C) : BR w B v l := own_base h hB
theorem br_cell {w : World} {C x : Nat} {v : Value} {l : List Bool} {b : Bool} (h : BR w C v l) (hx : l[x]? = some b) : ∃ g cap, v = .slice (some ⟨g, 0, none⟩) l.length cap ∧ C ≤ g ∧ g < w.heap.size ∧ w.cell? ⟨g, x, none⟩ = some (.bool b) ∧ w.frozen? ⟨g, x, none⟩ = false := by
  have hxl := (List.getElem?_eq_some_iff.1 hx).1
  rcases h.2 with ⟨rfl, h0⟩ | ⟨g, cap, cur, rfl, h2, h3, h4, h5, h6, h7⟩
  · omega
  · refine ⟨g, cap, rfl, h2, lt_of_block h3, ?_, by simp [World.frozen?, h3]⟩
    have e : (bools l)[x]? = some (.bool b) := by simp [hx]
    rw [← h7, List.getElem?_take] at e
    split at e
    · simp [World.cell?, h3]
      simpa using e
    · cases e
theorem br_set {w : World} {C x g cap : Nat} {l : List Bool} (h : BR w C (.slice (some ⟨g, 0, none⟩) l.length cap) l) (b : Bool) : BR (w.setCell ⟨g, x, none⟩ (.bool b)) C (.slice (some ⟨g, 0, none⟩) l.length cap) (l.set x b) := by
  refine ⟨by simp, ?_⟩
  rcases h.2 with ⟨h1, _⟩ | ⟨g', cap', cur, h1, h2, h3, h4, h5, h6, h7⟩
  · cases h1
  · cases h1
    refine .inr ⟨g, cap, cur.setIfInBounds x (.bool b), by simp, h2, cells_set h3 x _, by simpa using h4, h5, by simpa using h6, ?_⟩
    have e : (cur.setIfInBounds x (.bool b)).toList = cur.toList.set x (.bool b) := by simp
    rw [e, List.length_set]
    have e2 : bools (l.set x b) = (bools l).set x (.bool b) := by simp [List.map_set]
    rw [e2, ← h7, List.take_set]

/-- What was seen at an instruction. -/
def SeE (B n : Nat) (w : World) (cs : List Value) (i : Nat) (v : Value) : Option (List Int × List Bool) → Prop
  | none => cs[i * 3]? = some (.bool false)
  | some (st, l) => cs[i * 3]? = some (.bool true) ∧ (∃ s : ByteArray, cs[i * 3 + 1]? = some (.string s) ∧ s.data.toList = (st.map Vf.ltr).reverse) ∧ cs[i * 3 + 2]? = some v ∧ BR w B v l ∧ l.length = n
/-- What was seen; X is a row of truths that is none of these. -/
def SeAt (B n len SB : Nat) (come : Nat → Option (List Int × List Bool)) (X : Option Nat) (w : World) : Prop :=
  ∃ (cs : List Value) (vs : Nat → Value), w.heap[SB]? = some (.cells (List.toArray cs) 75 (0, 0)) ∧ cs.length = len * 3 ∧ (∀ i, i < len → SeE B n w cs i (vs i) (come i)) ∧
    (∀ i j g, i < len → j < len → come i ≠ none → come j ≠ none → (vs i).ownBlock = some g → (vs j).ownBlock = some g → i = j) ∧ (∀ i g, i < len → come i ≠ none → (vs i).ownBlock = some g → some g ≠ X)
theorem SeE.keep {B n : Nat} {w w' : World} {cs : List Value} {i : Nat} {v : Value} : ∀ {o : Option (List Int × List Bool)}, SeE B n w cs i v o → (∀ g bs, o ≠ none → v.ownBlock = some g → w.heap[g]? = some (.cells bs 4 (0, 0)) → w'.heap[g]? = w.heap[g]?) → SeE B n w' cs i v o
  | none, h, _ => h
  | some (st, l), ⟨h1, h2, h3, h4, h5⟩, hk => ⟨h1, h2, h3, br_keep h4 (fun g bs hg hb => hk g bs (by simp) hg hb), h5⟩
theorem SeAt.keep {B n len SB : Nat} {come : Nat → Option (List Int × List Bool)} {X : Option Nat} {w w' : World} (h : SeAt B n len SB come X w) (hs : w'.heap[SB]? = w.heap[SB]?) (hb : ∀ g cs, some g ≠ X → w.heap[g]? = some (.cells cs 4 (0, 0)) → w'.heap[g]? = w.heap[g]?) : SeAt B n len SB come X w' := by
  obtain ⟨cs, vs, h1, h2, h3, h4, h5⟩ := h
  exact ⟨cs, vs, hs.trans h1, h2, fun i hi => (h3 i hi).keep (fun g bs hn hg hb' => hb g bs (h5 i g hi hn hg) hb'), h4, h5⟩
theorem SeAt.blk {B n len SB : Nat} {come : Nat → Option (List Int × List Bool)} {X : Option Nat} {w : World} (h : SeAt B n len SB come X w) : ∃ cs, w.heap[SB]? = some (.cells cs 75 (0, 0)) := by
  obtain ⟨cs, vs, h1, _⟩ := h
  exact ⟨_, h1⟩
theorem SeAt.lt {B n len SB : Nat} {come : Nat → Option (List Int × List Bool)} {X : Option Nat} {w : World} (h : SeAt B n len SB come X w) : SB < w.heap.size := by
  obtain ⟨cs, h1⟩ := h.blk
  exact lt_of_block h1
theorem SeAt.grown {B n len SB : Nat} {come : Nat → Option (List Int × List Bool)} {X : Option Nat} {w w' : World} (h : SeAt B n len SB come X w) (hg : w.grownBy w' none) : SeAt B n len SB come X w' :=
  h.keep (kept0 hg h.lt) (fun _ _ _ hc => kept0 hg (lt_of_block hc))
/-- A block of other things may turn. -/
theorem SeAt.other {B n len SB N : Nat} {come : Nat → Option (List Int × List Bool)} {X : Option Nat} {w w' : World} {o : Obj} (h : SeAt B n len SB come X w) (hg : w.grownBy w' (some N)) (ho : w.heap[N]? = some o) (h1 : ∀ cs, o ≠ .cells cs 75 (0, 0)) (h2 : ∀ cs, o ≠ .cells cs 4 (0, 0)) : SeAt B n len SB come X w' := by
  refine h.keep (hg.block _ h.lt (fun e => ?_)) (fun g cs _ hc => hg.block _ (lt_of_block hc) (fun e => ?_))
  · cases e
    obtain ⟨cs, hb⟩ := h.blk
    rw [ho] at hb
    cases hb
    exact h1 _ rfl
  · cases e
    rw [ho] at hc
    cases hc
    exact h2 _ rfl
theorem SeAt.forget {B n len SB : Nat} {come : Nat → Option (List Int × List Bool)} {X : Option Nat} {w : World} (h : SeAt B n len SB come X w) : SeAt B n len SB come none w := by
  obtain ⟨cs, vs, h1, h2, h3, h4, h5⟩ := h
  exact ⟨cs, vs, h1, h2, h3, h4, fun _ _ _ _ _ e => by cases e⟩
/-- A row of truths that came since. -/
theorem SeAt.now {B n len SB X : Nat} {come : Nat → Option (List Int × List Bool)} {w w' : World} (h : SeAt B n len SB come none w) (hg : w.grownBy w' none) (hX : w.heap.size ≤ X) : SeAt B n len SB come (some X) w' := by
  have h' := h.grown hg
  obtain ⟨cs, vs, h1, h2, h3, h4, h5⟩ := h
  obtain ⟨cs', h1'⟩ := h'.blk
  refine ⟨cs, vs, (kept0 hg (lt_of_block h1)).trans h1, h2, fun i hi => (h3 i hi).keep (fun g bs _ _ hb => kept0 hg (lt_of_block hb)), h4, fun i g hi hn hg' e => ?_⟩
  cases e
  cases hc : come i with
  | none => exact hn hc
  | some p =>
    obtain ⟨st, l⟩ := p
    have := h3 i hi
    rw [hc] at this
    obtain ⟨_, bs, hb⟩ := br_ty this.2.2.2.1 hg'
    have := lt_of_block hb
    omega
theorem cell_row {w : World} {N i : Nat} {cs : List Value} {t : TypeId} {v : Value} (h : w.heap[N]? = some (.cells (List.toArray cs) t (0, 0))) (hv : cs[i]? = some v) : w.cell? ⟨N, i, none⟩ = some v := by
  simp [World.cell?, h, hv]
theorem cell_row' {w : World} {N i : Nat} {cs : List Value} {t : TypeId} {v : Value} (h : w.heap[N]? = some (.cells (List.toArray cs) t (0, 0))) (hv : w.cell? ⟨N, i, none⟩ = some v) : cs[i]? = some v := by
  simpa [World.cell?, h] using hv
theorem frozen_row {w : World} {N i : Nat} {cs : Array Value} {t : TypeId} (h : w.heap[N]? = some (.cells cs t (0, 0))) : w.frozen? ⟨N, i, none⟩ = false := by
  simp [World.frozen?, h]
theorem SeAt.no {B n len SB i : Nat} {come : Nat → Option (List Int × List Bool)} {X : Option Nat} {w : World} (h : SeAt B n len SB come X w) (hi : i < len) (hc : come i = none) :
    w.cell? ⟨SB, i * 3, none⟩ = some (.bool false) ∧ (∃ v, w.cell? ⟨SB, i * 3 + 1, none⟩ = some v) ∧ (∃ v, w.cell? ⟨SB, i * 3 + 2, none⟩ = some v) := by
  obtain ⟨cs, vs, h1, h2, h3, h4, h5⟩ := h
  have := h3 i hi
  rw [hc] at this
  refine ⟨cell_row h1 this, ⟨cs[i * 3 + 1]'(by omega), cell_row h1 (List.getElem?_eq_getElem _)⟩, ⟨cs[i * 3 + 2]'(by omega), cell_row h1 (List.getElem?_eq_getElem _)⟩⟩
theorem SeAt.frozen {B n len SB : Nat} {come : Nat → Option (List Int × List Bool)} {X : Option Nat} {w : World} (h : SeAt B n len SB come X w) (i : Nat) : w.frozen? ⟨SB, i, none⟩ = false := by
  obtain ⟨cs, h1⟩ := h.blk
  exact frozen_row h1
theorem SeAt.yes {B n len SB i : Nat} {come : Nat → Option (List Int × List Bool)} {X : Option Nat} {w : World} (h : SeAt B n len SB come X w) (hi : i < len) {st : List Int} {l : List Bool} (hc : come i = some (st, l)) :
    ∃ s v, w.cell? ⟨SB, i * 3, none⟩ = some (.bool true) ∧ w.cell? ⟨SB, i * 3 + 1, none⟩ = some (.string s) ∧ w.cell? ⟨SB, i * 3 + 2, none⟩ = some v ∧ s.data.toList = (st.map Vf.ltr).reverse ∧ BR w B v l ∧ l.length = n ∧ (∀ g, v.ownBlock = some g → some g ≠ X) := by
  obtain ⟨cs, vs, h1, h2, h3, h4, h5⟩ := h
  have := h3 i hi
  rw [hc] at this
  obtain ⟨e1, ⟨s, e2, e3⟩, e4, e5, e6⟩ := this
  exact ⟨s, vs i, cell_row h1 e1, cell_row h1 e2, cell_row h1 e4, e3, e5, e6, fun g hg => h5 i g hi (by rw [hc]; simp) hg⟩
def upd (come : Nat → Option (List Int × List Bool)) (i : Nat) (p : List Int × List Bool) : Nat → Option (List Int × List Bool) := fun j => if j = i then some p else come j
theorem three_set {w : World} {N i : Nat} {cs : List Value} {t : TypeId} (h : w.heap[N]? = some (.cells (List.toArray cs) t (0, 0))) (a b c : Value) :
    (((w.setCell ⟨N, i, none⟩ a).setCell ⟨N, i + 1, none⟩ b).setCell ⟨N, i + 2, none⟩ c).heap[N]? = some (.cells (List.toArray (((cs.set i a).set (i + 1) b).set (i + 2) c)) t (0, 0)) := set_row (set_row (set_row h i a) (i + 1) b) (i + 2) c
theorem three_far {w : World} {N i : Nat} (a b c : Value) {k : Nat} (hk : k ≠ N) : (((w.setCell ⟨N, i, none⟩ a).setCell ⟨N, i + 1, none⟩ b).setCell ⟨N, i + 2, none⟩ c).heap[k]? = w.heap[k]? :=
  (Below.heap_setCell _ ⟨N, i + 2, none⟩ _ _ hk).trans ((Below.heap_setCell _ ⟨N, i + 1, none⟩ _ _ hk).trans (Below.heap_setCell _ ⟨N, i, none⟩ _ _ hk))
/-- SOMETHING IS SEEN THERE, with a row that came since. -/
theorem SeAt.put {B n len SB i : Nat} {come : Nat → Option (List Int × List Bool)} {X : Option Nat} {w0 w : World} {v : Value} {s : ByteArray} {st : List Int} {l : List Bool} (h : SeAt B n len SB come X w0) (hg : w0.grownBy w none) (hX : ∀ g, X = some g → g < w0.heap.size) (hB : B ≤ w0.heap.size) (hi : i < len) (hv : BR w w0.heap.size v l) (hl : l.length = n) (hs : s.data.toList = (st.map Vf.ltr).reverse) :
    SeAt B n len SB (upd come i (st, l)) X (((w.setCell ⟨SB, i * 3, none⟩ (.bool true)).setCell ⟨SB, i * 3 + 1, none⟩ (.string s)).setCell ⟨SB, i * 3 + 2, none⟩ v) := by
  obtain ⟨cs, vs, h1, h2, h3, h4, h5⟩ := h
  have h1' : w.heap[SB]? = some (.cells (List.toArray cs) 75 (0, 0)) := (kept0 hg (lt_of_block h1)).trans h1
  have hold : ∀ j g, j < len → come j ≠ none → (vs j).ownBlock = some g → g < w0.heap.size := fun j g hj hn hg' => by
    cases hc : come j with
    | none => exact absurd hc hn
    | some p =>
      obtain ⟨st', l'⟩ := p
      have := h3 j hj
      rw [hc] at this
      obtain ⟨_, bs, hb⟩ := br_ty this.2.2.2.1 hg'
      exact lt_of_block hb
  have hnew : ∀ g, v.ownBlock = some g → w0.heap.size ≤ g := fun g hg' => (br_ty hv hg').1
  refine ⟨((cs.set (i * 3) (.bool true)).set (i * 3 + 1) (.string s)).set (i * 3 + 2) v, fun j => if j = i then v else vs j, three_set h1' _ _ _, by simpa using h2, fun j hj => ?_, fun a b g ha hb hna hnb ga gb => ?_, fun j g hj hn hg' e => ?_⟩
  · by_cases hji : j = i
    · subst hji
      simp only [upd, if_true]
      refine ⟨?_, ⟨s, ?_, hs⟩, ?_, ?_, hl⟩
      · rw [List.getElem?_set_ne (by omega), List.getElem?_set_ne (by omega), List.getElem?_set_self (by omega)]
      · rw [List.getElem?_set_ne (by omega), List.getElem?_set_self (by simp; omega)]
      · rw [List.getElem?_set_self (by simp; omega)]
      · refine br_keep (own_base hv hB) (fun g bs hg' hb => three_far _ _ _ (fun e => ?_))
        subst e
        rw [h1'] at hb
        simp at hb
    · simp only [upd, if_neg hji]
      have h6 := (h3 j hj).keep (w' := ((w.setCell ⟨SB, i * 3, none⟩ (.bool true)).setCell ⟨SB, i * 3 + 1, none⟩ (.string s)).setCell ⟨SB, i * 3 + 2, none⟩ v) (fun g bs _ _ hb => (three_far _ _ _ (fun e => by
        subst e
        rw [h1] at hb
        simp at hb)).trans (kept0 hg (lt_of_block hb)))
      have same : ∀ q, q = j * 3 ∨ q = j * 3 + 1 ∨ q = j * 3 + 2 → (((cs.set (i * 3) (.bool true)).set (i * 3 + 1) (.string s)).set (i * 3 + 2) v)[q]? = cs[q]? := fun q hq => by
        rw [List.getElem?_set_ne (by omega), List.getElem?_set_ne (by omega), List.getElem?_set_ne (by omega)]
      cases hc : come j with
      | none =>
        rw [hc] at h6
        exact (same _ (.inl rfl)).trans h6
      | some p =>
        obtain ⟨st', l'⟩ := p
        rw [hc] at h6
        obtain ⟨e1, ⟨s', e2, e3⟩, e4, e5, e6⟩ := h6
        exact ⟨(same _ (.inl rfl)).trans e1, ⟨s', (same _ (.inr (.inl rfl))).trans e2, e3⟩, (same _ (.inr (.inr rfl))).trans e4, e5, e6⟩
  · by_cases hai : a = i <;> by_cases hbi : b = i
    · rw [hai, hbi]
    · simp only [hai, hbi, if_true, if_false, upd] at ga gb hnb
      have := hnew g ga
      have := hold b g hb hnb gb
      omega
    · simp only [hai, hbi, if_true, if_false, upd] at ga gb hna
      have := hnew g gb
      have := hold a g ha hna ga
      omega
    · simp only [hai, hbi, if_false, upd] at ga gb hna hnb
      exact h4 a b g ha hb hna hnb ga gb
  · by_cases hji : j = i
    · simp only [hji, if_true] at hg'
      have := hnew g hg'
      have := hX g e.symm
      omega
    · simp only [hji, if_false, upd] at hg' hn
      exact h5 j g hj hn hg' e
/-- A truth goes from what was seen. -/
theorem SeAt.clear {B n len SB i x g cap : Nat} {come : Nat → Option (List Int × List Bool)} {X : Option Nat} {w : World} {st : List Int} {l : List Bool} (h : SeAt B n len SB come X w) (hi : i < len) (hc : come i = some (st, l)) (hv : w.cell? ⟨SB, i * 3 + 2, none⟩ = some (.slice (some ⟨g, 0, none⟩) n cap)) :
    SeAt B n len SB (upd come i (st, l.set x false)) X (w.setCell ⟨g, x, none⟩ (.bool false)) := by
  obtain ⟨cs, vs, h1, h2, h3, h4, h5⟩ := h
  have hi3 := h3 i hi
  rw [hc] at hi3
  obtain ⟨e1, ⟨s, e2, e3⟩, e4, e5, e6⟩ := hi3
  have ev : vs i = .slice (some ⟨g, 0, none⟩) n cap := by
    have := cell_row' h1 hv
    rw [e4] at this
    exact Option.some.inj this
  rw [ev] at e4 e5
  obtain ⟨_, bs, hb⟩ := br_ty e5 (g := g) rfl
  have hgS : SB ≠ g := fun e => by
    subst e
    rw [h1] at hb
    simp at hb
  subst e6
  refine ⟨cs, vs, (Below.heap_setCell _ ⟨g, x, none⟩ _ _ hgS).trans h1, h2, fun j hj => ?_, fun a b g' ha hb' hna hnb ga gb => h4 a b g' ha hb' (fun e => hna ?_) (fun e => hnb ?_) ga gb, fun j g' hj hn hg' => h5 j g' hj (fun e => hn ?_) hg'⟩
  · by_cases hji : j = i
    · subst hji
      simp only [upd, if_true]
      rw [ev]
      exact ⟨e1, ⟨s, e2, e3⟩, e4, br_set e5 false, by simp⟩
    · simp only [upd, if_neg hji]
      refine (h3 j hj).keep (fun g' bs' hn hg' hb' => Below.heap_setCell _ ⟨g, x, none⟩ _ _ (fun e => hji ?_))
      have e' : g' = g := e
      subst e'
      exact h4 j i g' hj hi hn (by rw [hc]; simp) hg' (by rw [ev]; rfl)
  · by_cases hai : a = i
    · subst hai; rw [hc] at e; cases e
    · unfold upd; rw [if_neg hai]; exact e
  · by_cases hbi : b = i
    · subst hbi; rw [hc] at e; cases e
    · unfold upd; rw [if_neg hbi]; exact e
  · by_cases hji : j = i
    · subst hji; rw [hc] at e; cases e
    · unfold upd; rw [if_neg hji]; exact e
end Go.Proofs.Ytfhombcgdkgcpaa
/- Which locals have something, as a row of truths; appends of the document's Code. -/
namespace Go.Proofs.Ytfhombcgdkgcpaa
open Go.RowKit
namespace Vf
def bl (n : Nat) (f : Fl) : List Bool := (List.range n).map f.has
def FlOk (n : Nat) (f : Fl) : Prop := ∀ j, n ≤ j → j < 256 → f.has j = false
theorem bl_len (n : Nat) (f : Fl) : (bl n f).length = n := by simp [bl]
theorem bl_at {n x : Nat} (f : Fl) (h : x < n) : (bl n f)[x]? = some (f.has x) := by simp [bl, h]
theorem fill_word (f : Fl) {a k : Nat} (hk : k < 4) : (f.fill a).word k = if a / 64 = k then f.word k ||| BitVec.twoPow 64 (a % 64) else f.word k := by
  rcases (show k = 0 ∨ k = 1 ∨ k = 2 ∨ k = 3 by omega) with rfl | rfl | rfl | rfl <;> simp [Fl.fill, Fl.word]
theorem has_fill (f : Fl) {a j : Nat} (hj : j < 256) : (f.fill a).has j = (f.has j || decide (j = a)) := by
  unfold Fl.has
  rw [fill_word f (by omega)]
  by_cases h : a / 64 = j / 64
  · rw [if_pos h, BitVec.getLsbD_or, BitVec.getLsbD_twoPow]
    congr 1
    have h1 : a % 64 < 64 := by omega
    by_cases e : j = a
    · subst e
      simp [h1]
    · have : ¬ a % 64 = j % 64 := by omega
      simp [e, this]
  · rw [if_neg h]
    have : ¬ j = a := fun e => h (by rw [e])
    simp [this]
theorem bl_fill {n a : Nat} (f : Fl) (hn : n ≤ 200) : bl n (f.fill a) = (bl n f).set a true := by
  refine List.ext_getElem? (fun j => ?_)
  by_cases hj : j < n
  · rw [bl_at _ hj, has_fill f (by omega), List.getElem?_set]
    by_cases e : a = j
    · subst e
      rw [if_pos rfl, if_pos (by rw [bl_len]; exact hj)]
      simp
    · rw [if_neg e, bl_at _ hj]
      have : ¬ j = a := fun e2 => e e2.symm
      simp [this]
  · rw [List.getElem?_eq_none (by rw [bl_len]; omega), List.getElem?_eq_none (by simp [bl_len]; omega)]
theorem FlOk.fill {n a : Nat} {f : Fl} (h : FlOk n f) (ha : a < n) : FlOk n (f.fill a) := fun j h1 h2 => by
  rw [has_fill f h2, h j h1 h2]
  have : ¬ j = a := by omega
  simp [this]
theorem has_none (j : Nat) : Fl.none.has j = false := by
  unfold Fl.has Fl.none Fl.word
  split
  · simp
  · split
    · simp
    · split <;> simp
theorem FlOk.none (n : Nat) : FlOk n Fl.none := fun j _ _ => has_none j
theorem FlOk.first {n : Nat} : ∀ {p : Nat}, p ≤ n → FlOk n (Fl.first p)
  | 0, _ => FlOk.none n
  | p + 1, h => (FlOk.first (p := p) (by omega)).fill (by omega)
theorem FlOk.both {n : Nat} {f g : Fl} (h : FlOk n f) : FlOk n (f.both g) := fun j h1 h2 => by rw [has_both, h j h1 h2]; rfl
theorem bl_none (n : Nat) : bl n Fl.none = List.replicate n false := by
  refine List.ext_getElem? (fun j => ?_)
  by_cases hj : j < n
  · rw [bl_at _ hj, has_none, List.getElem?_replicate, if_pos hj]
  · rw [List.getElem?_eq_none (by rw [bl_len]; omega), List.getElem?_eq_none (by simp; omega)]
/-- What is left of a row, up to x; whether something went. -/
def bm (n : Nat) (t k : Fl) (x : Nat) : List Bool := (List.range n).map (fun y => t.has y && (decide (x ≤ y) || k.has y))
def less (t k : Fl) : Nat → Bool
  | 0 => false
  | x + 1 => less t k x || (t.has x && !k.has x)
theorem bm_len (n : Nat) (t k : Fl) (x : Nat) : (bm n t k x).length = n := by simp [bm]
theorem bm_at {n y : Nat} (t k : Fl) (x : Nat) (h : y < n) : (bm n t k x)[y]? = some (t.has y && (decide (x ≤ y) || k.has y)) := by simp [bm, h]
theorem bm_zero (n : Nat) (t k : Fl) : bm n t k 0 = bl n t := by simp [bm, bl]
theorem bm_end (n : Nat) (t k : Fl) : bm n t k n = bl n (t.both k) := by
  refine List.ext_getElem? (fun j => ?_)
  by_cases hj : j < n
  · rw [bm_at _ _ _ hj, bl_at _ hj, has_both]
    have : decide (n ≤ j) = false := by simp; omega
    rw [this]
    rfl
  · rw [List.getElem?_eq_none (by rw [bm_len]; omega), List.getElem?_eq_none (by rw [bl_len]; omega)]
theorem bm_yes {n x : Nat} {t k : Fl} (h : (t.has x && !k.has x) = true) : bm n t k (x + 1) = (bm n t k x).set x false := by
  refine List.ext_getElem? (fun j => ?_)
  by_cases hj : j < n
  · rw [bm_at _ _ _ hj, List.getElem?_set]
    by_cases e : x = j
    · subst e
      rw [if_pos rfl, if_pos (by rw [bm_len]; exact hj)]
      simp at h
      simp [h]
    · rw [if_neg e, bm_at _ _ _ hj]
      have : decide (x + 1 ≤ j) = decide (x ≤ j) := by
        rw [Bool.eq_iff_iff, decide_eq_true_eq, decide_eq_true_eq]
        omega
      rw [this]
  · rw [List.getElem?_eq_none (by rw [bm_len]; omega), List.getElem?_eq_none (by simp [bm_len]; omega)]
theorem bm_no {n x : Nat} {t k : Fl} (h : (t.has x && !k.has x) = false) : bm n t k (x + 1) = bm n t k x := by
  refine List.ext_getElem? (fun j => ?_)
  by_cases hj : j < n
  · rw [bm_at _ _ _ hj, bm_at _ _ _ hj]
    by_cases e : x = j
    · subst e
      have : decide (x + 1 ≤ x) = false := by simp
      rw [this]
      cases h1 : t.has x
      · simp
      · rw [h1] at h
        simp at h
        simp [h]
    · have : decide (x + 1 ≤ j) = decide (x ≤ j) := by
        rw [Bool.eq_iff_iff, decide_eq_true_eq, decide_eq_true_eq]
        omega
      rw [this]
  · rw [List.getElem?_eq_none (by rw [bm_len]; omega), List.getElem?_eq_none (by rw [bm_len]; omega)]
theorem less_no {t k : Fl} : ∀ {x : Nat}, less t k x = false ↔ ∀ y, y < x → (t.has y && !k.has y) = false
  | 0 => ⟨fun _ y hy => by omega, fun _ => rfl⟩
  | x + 1 => by
    unfold less
    rw [Bool.or_eq_false_iff, less_no]
    constructor
    · rintro ⟨h1, h2⟩ y hy
      by_cases e : y = x
      · subst e; exact h2
      · exact h1 y (by omega)
    · intro h
      exact ⟨fun y hy => h y (by omega), h x (by omega)⟩
theorem less_eq {n : Nat} {t k : Fl} (h : FlOk n t) : less t k n = !(Fl.eq (t.both k) t) := by
  cases hl : less t k n with
  | false =>
    have h1 := less_no.1 hl
    have : t.both k = t := fl_ext fun j hj => by
      rw [has_both]
      by_cases hjn : j < n
      · have := h1 j hjn
        cases h2 : t.has j
        · rfl
        · rw [h2] at this
          simp at this
          simp [this]
      · rw [h j (by omega) hj]
        rfl
    rw [Fl.eq_iff.2 this]
    rfl
  | true =>
    cases he : Fl.eq (t.both k) t with
    | false => rfl
    | true =>
      exfalso
      have e := Fl.eq_iff.1 he
      have : less t k n = false := less_no.2 fun y _ => by
        have h2 := has_both t k y
        rw [e] at h2
        cases h3 : t.has y
        · rfl
        · rw [h3] at h2
          simp at h2
          simp [h2]
      rw [this] at hl
      cases hl
/-- What was seen, in letters' rows. -/
def cm (n : Nat) (come : Nat → Option Kn) : Nat → Option (List Int × List Bool) := fun i => (come i).map (fun k => (k.st, bl n k.fl))
theorem cm_some {n i : Nat} {come : Nat → Option Kn} {k : Kn} (h : come i = some k) : cm n come i = some (k.st, bl n k.fl) := by unfold cm; rw [h]; rfl
theorem cm_none {n i : Nat} {come : Nat → Option Kn} (h : come i = none) : cm n come i = none := by unfold cm; rw [h]; rfl
theorem cm_note (n : Nat) (s : S) (i : Nat) (k : Kn) : cm n (s.note i k).come = upd (cm n s.come) i (k.st, bl n k.fl) := by
  funext j
  unfold cm upd S.note
  by_cases e : j = i
  · simp [e]
  · simp [e]
def Flg (n : Nat) (s : S) : Prop := ∀ i k, s.come i = some k → FlOk n k.fl
theorem Flg.note {n i : Nat} {s : S} {k : Kn} (h : Flg n s) (hk : FlOk n k.fl) : Flg n (s.note i k) := fun j k' hj => by
  unfold S.note at hj
  simp only at hj
  split at hj
  · cases hj; exact hk
  · exact h j k' hj
end Vf

section
variable {P : Program} {w : World}
theorem run_append_nothing (base : Nat) (t ty e : TypeId) (i : TypeInfo) (size : Nat) (ht : P.underlying t = some (.slice e)) (hi : P.info? e = some i) (v : Value) (n : Nat) (xs : List Value) (hown : w.ownsRow base e size v n xs) (c : Nat) :
    (Builtin.append_ #[t, t] ty #[v, .slice none 0 c]).run P w = .ok v w := by
  rcases hown.2 with ⟨rfl, rfl⟩ | ⟨g, cap, cur, rfl, _, _, hnc, _⟩
  · simp [Builtin.append_, run_underlying ht, sizeOf, typeInfo, hi, Builtin.lenOf, Builtin.firstCells]
  · simp [Builtin.append_, run_underlying ht, sizeOf, typeInfo, hi, Builtin.lenOf, Builtin.firstCells, hnc, storeCells]
end
/-- A copy of a row of truths. -/
theorem wpList_append_bools {w : World} {ops : Array Oper} {rest : List Oper} {o : Oper} {a : Act} {Q : Exit → Act → World → Prop} (hgd : o.guard = none) (s x : Operand)
    (ho : o.op = .call { callee := .builtin .append, args := #[s, x], argTypes := #[73, 73] })
    (N C : Nat) (hs : a.eval s = .slice (some ⟨N, 0, none⟩) 0 0) (hN : w.heap[N]? = some (.cells #[] 4 (0, 0))) (v : Value) (l : List Bool) (hx : a.eval x = v) (h : BR w C v l) (hl : l.length ≤ 200)
    (hK : ∀ v' w', BR w' N v' l → w.grownBy w' (some N) → wpList Try.prog ops Q rest (a.put o.dst v') w') : wpList Try.prog ops Q (o :: rest) a w := by
  obtain ⟨i0, hi, hz0, hz1, hz2⟩ := info_parts Try.infobool
  have hown : w.ownsRow N 4 1 (.slice (some ⟨N, 0, none⟩) 0 0) 0 [] := ⟨rfl, .inr ⟨N, 0, #[], rfl, Nat.le_refl _, hN, Nat.le_refl _, Nat.zero_le _, rfl, rfl⟩⟩
  have hlt := lt_of_block hN
  have hbl : (bools l).length = l.length * 1 := by simp
  rcases h.2 with ⟨h1, h2⟩ | ⟨g, cap, cur, h1, h2, h3, h4, h5, h6, h7⟩
  · rw [h1] at hx
    refine wpList_plain hgd fun K hK2 => ?_
    have hrun := run_append_nothing (P := Try.prog) (w := w) N 73 o.type 4 i0 1 Try.underlying73 hi (.slice (some ⟨N, 0, none⟩) 0 0) 0 [] hown 0
    unfold Oper.wp
    simp [execOp, ho, resolve, invoke, builtin, hs, hx, hrun, Result.andThen]
    have e : l = [] := List.eq_nil_of_length_eq_zero h2
    subst e
    exact hK2 _ _ (hK _ w hown (World.grownBy.refl _ _))
  · rw [h1] at hx
    refine wpList_append_own w hgd s x 73 ho N 4 i0 _ 1 1 Try.underlying73 hi hz0 hz1 hz2 rfl (by decide) _ 0 [] hs hown ⟨g, 0, none⟩ l.length cap (bools l) hx hbl (fun j u hu => ?_) (fun u hu => ?_) (by unfold maxLen; omega) (by omega) (by omega) (fun v' w' h8 h9 _ => ?_)
    · rw [add_none, Nat.zero_add]
      have e := hu
      rw [← h7, List.getElem?_take] at e
      split at e
      · simp [World.cell?, h3]
        simpa using e
      · cases e
    · simp at hu
      rcases hu with ⟨_, rfl⟩ | ⟨_, rfl⟩ <;> rfl
    · have e : 0 + l.length = l.length := Nat.zero_add _
      rw [e, List.nil_append] at h8
      exact hK v' w' h8 h9

theorem own_blk {w : World} {C : Nat} {e : TypeId} {size n : Nat} {v : Value} {xs : List Value} (h : w.ownsRow C e size v n xs) : ∀ j, v.ownBlock = some j → C ≤ j := by
  intro j hj
  rcases h.2 with ⟨rfl, _⟩ | ⟨g, cap, cur, rfl, h2, _⟩
  · cases hj
  · cases hj
    exact h2
/-- ONE MORE BEHIND, in the old block or in a new one. -/
theorem append_q2 (w : World) (B : Nat) (ty : TypeId) (v : Value) (ws : List Nat) (x : Nat) (h : QR w B v ws) (a : Addr) (hnews : ∀ j u, [Value.int .i64 (x : Int)][j]? = some u → w.cell? (a.add j) = some u) (hn : ws.length ≤ 100000000) (hB : B ≤ w.heap.size) :
    ∃ v' w', (Builtin.append_ #[32, 32] ty #[v, .slice (some a) 1 1]).run Try.prog w = .ok v' w' ∧ QR w' B v' (ws ++ [x]) ∧ w.grownBy w' v.ownBlock ∧ ∀ j, v'.ownBlock = some j → v.ownBlock = some j ∨ w.heap.size ≤ j := by
  obtain ⟨i0, hi, hz0, hz1, hz2⟩ := info_parts Try.info3
  rcases h with ⟨rfl, rfl⟩ | ⟨g, off, cap, cs, rfl, hBg, hh, h1, h2, h3⟩
  · obtain ⟨v', w', hr, ho, hg, _⟩ := run_append_own (P := Try.prog) w w.heap.size 32 ty 3 i0 _ 1 8 Try.underlying32 hi hz0 hz1 hz2 rfl (by decide) (.slice none 0 0) 0 [] (World.ownsRow_nil _ _ _ _) a 1 1 [.int .i64 (x : Int)] rfl hnews (one_cell1 x) (by unfold maxLen; omega) (by omega) (Nat.le_refl _)
    exact ⟨v', w', hr, qr_own (ws := [x]) (own_base ho hB), hg, fun j hj => .inr (own_blk ho j hj)⟩
  · by_cases hroom : ws.length + 1 ≤ cap
    · have hlt : off + ws.length < cs.length := by omega
      have hr := run_append_room_cells (P := Try.prog) w 32 ty 3 i0 Try.underlying32 hi g off ws.length cap a 1 1 [.int .i64 (x : Int)] (by rw [hz1]; rfl) hnews (one_cell1 x) hroom
        (fun j hj => by
          have hj0 : j = 0 := by simpa using hj
          subst hj0
          rw [hz1]
          simp [World.cell?, hh, hlt])
        (fun j hj => by simp [World.frozen?, hh])
      rw [hz1, Nat.mul_one] at hr
      refine ⟨_, _, hr, .inr ⟨g, off, cap, cs.set (off + ws.length) (.int .i64 (x : Int)), by simp, hBg, set_row hh _ _, by simpa using h1, by simpa using hroom, fun i y hy => ?_⟩, ⟨rfl, rfl, rfl, by simp [World.setCells, World.setCell], fun k hk hne => ?_⟩, fun j hj => .inl hj⟩
      · by_cases hi' : i < ws.length
        · rw [List.getElem?_append_left hi'] at hy
          rw [List.getElem?_set_ne (by omega)]
          exact h3 i y hy
        · have hi2 : i = ws.length := by
            have := (List.getElem?_eq_some_iff.1 hy).1
            simp at this
            omega
          subst hi2
          simp at hy
          subst hy
          rw [List.getElem?_set_self hlt]
      · exact Below.heap_setCell w ⟨g, off + ws.length, none⟩ _ k (fun e => hne (by rw [e]; rfl))
    · obtain ⟨v', w', hr, ho, hg⟩ := run_append_arg_grows (P := Try.prog) w 32 ty 3 i0 _ 1 8 Try.underlying32 hi hz0 hz1 hz2 rfl (by decide) ⟨g, off, none⟩ ws.length cap (nats ws) (by simp) (fun j u hu => by
          rw [add_none]
          rw [List.getElem?_map] at hu
          obtain ⟨y, hy, rfl⟩ := Option.map_eq_some_iff.1 hu
          simp [World.cell?, hh, h3 j y hy]) a 1 1 [.int .i64 (x : Int)] rfl hnews (by omega) (by unfold maxLen; omega) (by omega)
      exact ⟨v', w', hr, qr_own (ws := ws ++ [x]) (own_base (by simpa using ho) hB), grown_any hg, fun j hj => .inr (own_blk ho j hj)⟩
/-- The same as a law of the walk. -/
theorem wpList_append_q2 {w : World} {ops : Array Oper} {rest : List Oper} {o : Oper} {a : Act} {Q : Exit → Act → World → Prop} (hgd : o.guard = none) (s x : Operand)
    (ho : o.op = .call { callee := .builtin .append, args := #[s, x], argTypes := #[32, 32] })
    (B : Nat) (v : Value) (ws : List Nat) (y : Nat) (hs : a.eval s = v) (h : QR w B v ws) (ad : Addr) (hx : a.eval x = .slice (some ad) 1 1) (hnews : ∀ j u, [Value.int .i64 (y : Int)][j]? = some u → w.cell? (ad.add j) = some u)
    (hn : ws.length ≤ 100000000) (hB : B ≤ w.heap.size)
    (hK : ∀ v' w', QR w' B v' (ws ++ [y]) → w.grownBy w' v.ownBlock → (∀ j, v'.ownBlock = some j → v.ownBlock = some j ∨ w.heap.size ≤ j) → wpList Try.prog ops Q rest (a.put o.dst v') w') : wpList Try.prog ops Q (o :: rest) a w := by
  refine wpList_plain hgd fun K hK2 => ?_
  obtain ⟨v', w', hr, h2, h3, h4⟩ := append_q2 w B o.type v ws y h ad hnews hn hB
  unfold Oper.wp
  simp [execOp, ho, resolve, invoke, builtin, hs, hx, hr, Result.andThen]
  exact hK2 _ _ (hK v' w' h2 h3 h4)
end Go.Proofs.Ytfhombcgdkgcpaa
/- The document's Code in memory: what lies there all along; what holds at the head of its loop. -/
namespace Go.Proofs.Ytfhombcgdkgcpaa
open Go.RowKit

abbrev kO (k : Nat) : Obj := .cells #[.int .i64 (k : Int)] 3 (0, 0)
/-- Blocks that stay: the module, the unit's number, the answer, the unit. -/
structure CdAt (c : FC) (kk : Nat) (w W : World) : Prop where
  grown : w.grownBy W none
  mb : W.heap[w.heap.size]? = some (amO c.m c.ab c.au c.cb c.cu)
  kb : W.heap[w.heap.size + 1]? = some (kO kk)
  wz : W.heap[w.heap.size + 1 + 1]? = some whZ
  ub : W.heap[w.heap.size + 1 + 1 + 1]? = some (unO c.u c.al c.ac c.cl c.cc)
theorem CdAt.keep {c : FC} {kk : Nat} {w W W' : World} {r : Option Nat} (h : CdAt c kk w W) (hg : W.grownBy W' r) (hr : ∀ N, r = some N → w.heap.size + 1 + 1 + 1 + 1 ≤ N) : CdAt c kk w W' := by
  have k : ∀ b, b < w.heap.size + 1 + 1 + 1 + 1 → W'.heap[b]? = W.heap[b]? := fun b hb => hg.block b (by have := lt_of_block h.ub; omega) (fun e => by have := hr b e.symm; omega)
  exact ⟨h.grown.andThen hg (fun j e => .inl (by have := hr j e; omega)), (k _ (by omega)).trans h.mb, (k _ (by omega)).trans h.kb, (k _ (by omega)).trans h.wz, (k _ (by omega)).trans h.ub⟩
theorem CdAt.next {c : FC} {kk : Nat} {w W W' : World} (h : CdAt c kk w W) (hg : W.grownBy W' none) : CdAt c kk w W' := h.keep hg (fun _ e => by cases e)
theorem CdAt.new {c : FC} {kk : Nat} {w W : World} (h : CdAt c kk w W) (o : Obj) : CdAt c kk w (W.alloc o) := h.next (grown0_new (World.grownBy.refl _ _) _)
theorem CdAt.set {c : FC} {kk N : Nat} {w W : World} (h : CdAt c kk w W) (hN : w.heap.size + 1 + 1 + 1 + 1 ≤ N) (o : Nat) (v : Value) : CdAt c kk w (W.setCell ⟨N, o, none⟩ v) := h.keep (grown_set (grown_refl W N) o v) (fun _ e => by cases e; exact hN)
theorem CdAt.lt {c : FC} {kk : Nat} {w W : World} (h : CdAt c kk w W) : w.heap.size + 1 + 1 + 1 < W.heap.size := lt_of_block h.ub
theorem one_cells {w : World} {N : Nat} {x : Value} {t : TypeId} (h : w.heap[N]? = some (.cells #[x] t (0, 0))) : w.cell? ⟨N, 0, none⟩ = some x := by
  simp [World.cell?, h]

theorem br_at {w : World} {C g n cap x : Nat} {l : List Bool} {b : Bool} (h : BR w C (.slice (some ⟨g, 0, none⟩) n cap) l) (hx : l[x]? = some b) : w.cell? ⟨g, x, none⟩ = some (.bool b) ∧ w.frozen? ⟨g, x, none⟩ = false ∧ C ≤ g ∧ g < w.heap.size := by
  obtain ⟨g', cap', e, h1, h2, h3, h4⟩ := br_cell h hx
  cases e
  exact ⟨h3, h4, h1, h2⟩
theorem br_set2 {w : World} {C g n cap x : Nat} {l : List Bool} (h : BR w C (.slice (some ⟨g, 0, none⟩) n cap) l) (hn : l.length = n) (b : Bool) : BR (w.setCell ⟨g, x, none⟩ (.bool b)) C (.slice (some ⟨g, 0, none⟩) n cap) (l.set x b) := by
  subst hn
  exact br_set h b

abbrev seO (len : Nat) : Obj := .cells (madeCells (Value.agg #[.bool false, .string ⟨#[]⟩, .slice none 0 0]).cells (len * 3)) 75 (0, 0)
abbrev haO (n : Nat) : Obj := .cells (madeCells (Value.bool false).cells (n * 1)) 4 (0, 0)
theorem made3 (len i : Nat) (hi : i < len) : (madeCells (Value.agg #[.bool false, .string ⟨#[]⟩, .slice none 0 0]).cells (len * 3)).toList[i * 3]? = some (.bool false) := by
  have e : (i * 3) % 3 = 0 := by omega
  unfold madeCells
  simp only [Array.toList_map, Array.toList_range, List.getElem?_map]
  rw [List.getElem?_range (by omega)]
  simp [Value.cells, e]
theorem SeAt.start {B n len SB : Nat} {w : World} (h : w.heap[SB]? = some (seO len)) : SeAt B n len SB (fun _ => none) none w :=
  ⟨(madeCells (Value.agg #[.bool false, .string ⟨#[]⟩, .slice none 0 0]).cells (len * 3)).toList, fun _ => .slice none 0 0, by simpa using h, by simp [size_madeCells], fun i hi => made3 len i hi, fun _ _ _ _ _ hn => absurd rfl hn, fun _ _ _ hn => absurd rfl hn⟩
theorem br_start {n N : Nat} {w : World} (h : w.heap[N]? = some (haO n)) (hn : n ≤ 200) : BR w N (.slice (some ⟨N, 0, none⟩) n n) (Vf.bl n Vf.Fl.none) := by
  rw [Vf.bl_none]
  refine ⟨by simp, .inr ⟨N, n, _, by simp, Nat.le_refl _, h, by simp, by unfold maxLen; omega, size_madeCells _ _, ?_⟩⟩
  have e : (madeCells (Value.bool false).cells (n * 1)).toList = List.replicate (n * 1) (Value.bool false) := toList_madeCells_one _ _
  rw [e]
  simp
/-- What holds at the head of Code's loop. -/
structure CoAt (c : FC) (kk : Nat) (w : World) (s : Vf.S) (rv : Value) (W : World) : Prop where
  cd : CdAt c kk w W
  se : SeAt (w.heap.size + 1 + 1 + 1 + 1) c.u.locals.length c.u.code.length (w.heap.size + 1 + 1 + 1 + 1) (Vf.cm c.u.locals.length s.come) none W
  q : QR W (w.heap.size + 1 + 1 + 1 + 1) rv s.row
  inv : Inv c.m c.u s
  flg : Vf.Flg c.u.locals.length s
def CdG (c : FC) (kk : Nat) (w : World) (er num : Int) (gk : Nat) (rv : Value) (W : World) : Prop :=
  ∃ s, CoAt c kk w s rv W ∧ Vf.mu c.u.code.length s < gk ∧ Vf.mu c.u.code.length s ≤ 3000000 ∧ (er, num) = ((Vf.flow c.m c.u gk s).1, ((Vf.flow c.m c.u gk s).2 : Int))
end Go.Proofs.Ytfhombcgdkgcpaa
