/- The document's answer, chapter 7, walked: WHAT ITS Needs ANSWERS; bad. -/
import Derived.Test.YtbkimpimoclobaaM30
import Derived.Test.YtbkimpimoclobaaM31
import Derived.Laws.AppendOwnNone
import Derived.Laws.MakeOwn
namespace Go.Proofs.Ytbkimpimoclobaa
open Go.RowKit

theorem callee_of {m : Vf.Md} (hR : Rt m) {kd a : Int} (h : Vf.is m kd a = true) : Callee m a (Vf.unit m a) ∧ (Vf.unit m a).kind = kd ∧ Vf.headE m (Vf.unit m a) = 0 ∧ 0 ≤ a ∧ a < 30 := by
  obtain ⟨q, rfl, hq2, hq3⟩ := is_unit h
  have hh := (hR.heads q _ hq2).1
  obtain ⟨z1, z2, z3, z4, z5, z6⟩ := sized_true (headE_zero hh).2.1
  have hl := (List.getElem?_eq_some_iff.1 hq2).1
  have := hR.units
  exact ⟨⟨by simpa using hq2, by omega, z2, z4, z3, fun t ht => Vf.okt_lt hR.units ((typed_of hh).2.2 t ht)⟩, hq3, hh, by omega, by omega⟩

set_option maxRecDepth 100000 in
set_option maxHeartbeats 1000000 in
theorem rneeds_any (m : Vf.Md) (ab au : Option Addr) (cb cu B : Nat) (u : Vf.Un) (al ac : Option Addr) (cl cc : Nat) (op a n : Int) (w : World) (hmd : Hid (ModIn B w m ab au)) (hun : Hid (UnIn B w u al ac cl cc)) (hB : B ≤ w.heap.size) (hR : Hid (Rt m)) (hu : Hid (Vf.headE m u = 0)) (hf : Hid (Vf.formE m u ⟨op, a, n⟩ = 0)) (hk : Hid (¬ Vf.early u ⟨op, a, n⟩)) :
    Calls Try.prog 33 #[mdV m ab au cb cu, runV u al ac cl cc, rinV op a n] w fun e w' => NdE (Vf.needs m u ⟨op, a, n⟩) e ∧ w.grownBy w' none := by
  obtain ⟨h1, h32, hrg⟩ := formE_zero hf.out
  obtain ⟨t1, t2, t3⟩ := typed_of hu.out
  have h1' : 1 ≤ op := h1
  have h32' : op ≤ 32 := h32
  have hloc : op = 3 ∨ op = 4 → ∃ t, u.locals[a.toNat]? = some t ∧ 0 ≤ a ∧ Vf.Lt t ∧ Vf.localTy u a = t := by
    intro ho
    have hr := hrg
    unfold Vf.ranged at hr
    rw [if_neg (by show ¬ op = 2; omega), if_pos (show op = 3 ∨ op = 4 from ho)] at hr
    simp at hr
    have hlen : a.toNat < u.locals.length := by omega
    refine ⟨_, List.getElem?_eq_getElem hlen, hr.1, Vf.okt_lt hR.out.units (t3 _ (List.getElem_mem hlen)), ?_⟩
    unfold Vf.localTy
    rw [List.getElem?_eq_getElem hlen]
    rfl
  have hbox : op = 26 ∨ op = 27 → ∃ x, m.boxes[a.toNat]? = some x ∧ 0 ≤ a ∧ Vf.Lt x.ty ∧ Vf.boxTy m a = x.ty := by
    intro ho
    have hr := hrg
    unfold Vf.ranged at hr
    rw [if_neg (by show ¬ op = 2; omega), if_neg (by show ¬ (op = 3 ∨ op = 4); omega), if_neg (by show ¬ (op = 21 ∨ op = 22); omega), if_neg (by show ¬ op = 23; omega), if_neg (by show ¬ op = 29; omega), if_pos (show op = 26 ∨ op = 27 from ho)] at hr
    simp at hr
    have hlen : a.toNat < m.boxes.length := by omega
    refine ⟨_, List.getElem?_eq_getElem hlen, hr.1, Vf.lt_plain (hR.out.boxes _ _ (List.getElem?_eq_getElem hlen)), ?_⟩
    unfold Vf.boxTy
    rw [List.getElem?_eq_getElem hlen]
    rfl
  have hcall : op = 23 → Vf.is m 2 a = true := by
    intro ho
    have hr := hrg
    unfold Vf.ranged at hr
    rw [if_neg (by show ¬ op = 2; omega), if_neg (by show ¬ (op = 3 ∨ op = 4); omega), if_neg (by show ¬ (op = 21 ∨ op = 22); omega), if_pos (show op = 23 from ho)] at hr
    exact hr
  have hstart : op = 29 → Vf.is m 3 a = true := by
    intro ho
    have hr := hrg
    unfold Vf.ranged at hr
    rw [if_neg (by show ¬ op = 2; omega), if_neg (by show ¬ (op = 3 ∨ op = 4); omega), if_neg (by show ¬ (op = 21 ∨ op = 22); omega), if_neg (by show ¬ op = 23; omega), if_pos (show op = 29 from ho)] at hr
    exact hr
  have hkk := hk.out
  unfold Vf.early at hkk
  simp only at hkk
  clear h1 h32 hrg hk
  have hall : op = 1 ∨ op = 2 ∨ op = 3 ∨ op = 4 ∨ op = 5 ∨ op = 6 ∨ op = 7 ∨ op = 8 ∨ op = 9 ∨ op = 10 ∨ op = 11 ∨ op = 12 ∨ op = 13 ∨ op = 14 ∨ op = 15 ∨ op = 16 ∨ op = 17 ∨ op = 18 ∨ op = 19 ∨ op = 20 ∨ op = 21 ∨ op = 22 ∨ op = 23 ∨ op = 24 ∨ op = 25 ∨ op = 26 ∨ op = 27 ∨ op = 28 ∨ op = 29 ∨ op = 30 ∨ op = 31 ∨ op = 32 := by omega
  rcases hall with rfl | rfl | rfl | rfl | rfl | rfl | rfl | rfl | rfl | rfl | rfl | rfl | rfl | rfl | rfl | rfl | rfl | rfl | rfl | rfl | rfl | rfl | rfl | rfl | rfl | rfl | rfl | rfl | rfl | rfl | rfl | rfl
  · exact rneeds_1 m ab au cb cu u al ac cl cc a n w
  · exact rneeds_2 m ab au cb cu u al ac cl cc a n w
  · obtain ⟨t, e1, e2, e3, e4⟩ := hloc (by decide)
    have en : Vf.needs m u ⟨3, a, n⟩ = ([], [Vf.ltr t]) := by rw [← e4]; rfl
    rw [en]
    exact rneeds_3 m ab au cb cu u al ac cl cc a n w B hun hB t e2 e1 e3
  · obtain ⟨t, e1, e2, e3, e4⟩ := hloc (by decide)
    have en : Vf.needs m u ⟨4, a, n⟩ = ([Vf.ltr t], []) := by rw [← e4]; rfl
    rw [en]
    exact rneeds_4 m ab au cb cu u al ac cl cc a n w B hun hB t e2 e1 e3
  · exact rneeds_5 m ab au cb cu u al ac cl cc a n w
  · exact rneeds_6 m ab au cb cu u al ac cl cc a n w
  · exact rneeds_7 m ab au cb cu u al ac cl cc a n w
  · exact rneeds_8 m ab au cb cu u al ac cl cc a n w
  · exact rneeds_9 m ab au cb cu u al ac cl cc a n w
  · exact rneeds_10 m ab au cb cu u al ac cl cc a n w
  · exact rneeds_11 m ab au cb cu u al ac cl cc a n w
  · exact rneeds_12 m ab au cb cu u al ac cl cc a n w
  · exact rneeds_13 m ab au cb cu u al ac cl cc a n w
  · exact rneeds_14 m ab au cb cu u al ac cl cc a n w
  · exact rneeds_15 m ab au cb cu u al ac cl cc a n w
  · exact rneeds_16 m ab au cb cu u al ac cl cc a n w
  · exact rneeds_17 m ab au cb cu u al ac cl cc a n w
  · exact rneeds_18 m ab au cb cu u al ac cl cc a n w
  · exact rneeds_19 m ab au cb cu u al ac cl cc a n w
  · exact rneeds_20 m ab au cb cu u al ac cl cc a n w
  · exact rneeds_21 m ab au cb cu u al ac cl cc a n w
  · exact rneeds_22 m ab au cb cu u al ac cl cc a n w
  · obtain ⟨e1, e2, e3, _⟩ := callee_of hR.out (hcall rfl)
    exact rneeds_23 m ab au cb cu u al ac cl cc a n w B hmd hB _ (hide e1) (Vf.lt_plain ((typed_of e3).1.resolve_left (by omega)))
  · exact rneeds_24 m ab au cb cu u al ac cl cc a n w (Vf.lt_plain (t1.resolve_left (by omega)))
  · exact rneeds_25 m ab au cb cu u al ac cl cc a n w
  · obtain ⟨x, e1, e2, e3, e4⟩ := hbox (by decide)
    have en : Vf.needs m u ⟨26, a, n⟩ = ([Vf.ltr x.ty], []) := by rw [← e4]; rfl
    rw [en]
    exact rneeds_26 m ab au cb cu u al ac cl cc a n w B hmd hB x e2 e1 e3
  · obtain ⟨x, e1, e2, e3, e4⟩ := hbox (by decide)
    have en : Vf.needs m u ⟨27, a, n⟩ = ([], [Vf.ltr x.ty]) := by rw [← e4]; rfl
    rw [en]
    exact rneeds_27 m ab au cb cu u al ac cl cc a n w B hmd hB x e2 e1 e3
  · exact rneeds_28 m ab au cb cu u al ac cl cc a n w
  · obtain ⟨e1, e2, e3, e4, e5⟩ := callee_of hR.out (hstart rfl)
    exact rneeds_29 m ab au cb cu u al ac cl cc a n w B hmd hB _ (hide e1) (.inr (.inr ⟨by omega, by omega⟩))
  · exact rneeds_30 m ab au cb cu u al ac cl cc a n w
  · exact rneeds_31 m ab au cb cu u al ac cl cc a n w (Vf.lt_plain (t1.resolve_left (by omega))) (Vf.lt_plain (t2.resolve_left (by omega)))
  · exact rneeds_32 m ab au cb cu u al ac cl cc a n w

/-- What bad answers. -/
theorem rbad_any (KB AT : Nat) (er k n : Int) (w : World) (hk : Hid (w.cell? ⟨KB, 0, none⟩ = some (.int .i64 k))) (hn : Hid (w.cell? ⟨AT, 0, none⟩ = some (.int .i64 n))) (h1 : KB < w.heap.size) (h2 : AT < w.heap.size) :
    Calls Try.prog 32 #[.int .i64 er, .pointer (some ⟨KB, 0, none⟩), .pointer (some ⟨AT, 0, none⟩)] w fun e w' => e = .returned (whV er k n) ∧ w.grownBy w' none := by
  have c1 := hk.out
  have c2 := hn.out
  go_enter Try.func32, Try.ntmps32
  go_wp2
  refine bodyPost_ret (v := whV er k n) (by simp [results, Try.results32, go_sem]) rfl ?_
  exact ⟨rfl, grown0_new (World.grownBy.refl _ _) _⟩
end Go.Proofs.Ytbkimpimoclobaa

/- The document's Code in memory: what was seen, rows of truths, the row of what is to be looked at. -/
namespace Go.Proofs.Ytbkimpimoclobaa
open Go.RowKit

theorem Try.infobool : (Try.prog.info? 4).map (fun i => (i.zero, i.size, i.bytes)) = some (some (.bool false), 1, 1) := by kernel_rfl
theorem Try.infoseen : (Try.prog.info? 76).map (fun i => (i.zero, i.size, i.bytes)) = some (some (.agg #[.bool false, .string ⟨#[]⟩, .slice none 0 0]), 3, 48) := by kernel_rfl

abbrev bools (l : List Bool) : List Value := l.map Value.bool
/-- A row of truths of one's own. -/
abbrev BR (w : World) (C : Nat) (v : Value) (l : List Bool) : Prop := w.ownsRow C 4 1 v l.length (bools l)
theorem br_keep {w w' : World} {C : Nat} {v : Value} {l : List Bool} (h : BR w C v l) (hk : ∀ g cs, v.ownBlock = some g → w.heap[g]? = some (.cells cs 4 (0, 0)) → w'.heap[g]? = w.heap[g]?) : BR w' C v l := by
  refine ⟨h.1, ?_⟩
  rcases h.2 with h1 | ⟨g, cap, cur, rfl, h2, h3, h4⟩
  · exact .inl h1
  · exact .inr ⟨g, cap, cur, rfl, h2, (hk g _ rfl h3).trans h3, h4⟩
theorem br_grown {w w' : World} {C : Nat} {v : Value} {l : List Bool} (h : BR w C v l) (hg : w.grownBy w' none) : BR w' C v l := br_keep h (fun _ _ _ hc => kept0 hg (lt_of_block hc))
theorem br_ty {w : World} {C g : Nat} {v : Value} {l : List Bool} (h : BR w C v l) (hg : v.ownBlock = some g) : C ≤ g ∧ ∃ cs, w.heap[g]? = some (.cells cs 4 (0, 0)) := by
  rcases h.2 with ⟨rfl, _⟩ | ⟨g', cap, cur, rfl, h2, h3, h4⟩
  · cases hg
  · cases hg
    exact ⟨h2, _, h3⟩
theorem br_cell {w : World} {C x : Nat} {v : Value} {l : List Bool} {b : Bool} (h : BR w C v l) (hx : l[x]? = some b) : ∃ g cap, v = .slice (some ⟨g, 0, none⟩) l.length cap ∧ C ≤ g ∧ g < w.heap.size ∧ w.cell? ⟨g, x, none⟩ = some (.bool b) ∧ w.frozen? ⟨g, x, none⟩ = false := by
  have hxl := (List.getElem?_eq_some_iff.1 hx).1
  rcases h.2 with ⟨rfl, h0⟩ | ⟨g, cap, cur, rfl, h2, h3, h4, h5, h6, h7⟩
  · omega
  · refine ⟨g, cap, rfl, h2, lt_of_block h3, ?_, by simp [World.frozen?, h3]⟩
    have e : (bools l)[x]? = some (.bool b) := by simp [hx]
    rw [← h7, List.getElem?_take] at e
    split at e
    · simp [World.cell?, h3]
      simpa using e
    · cases e
theorem br_set {w : World} {C x g cap : Nat} {l : List Bool} (h : BR w C (.slice (some ⟨g, 0, none⟩) l.length cap) l) (b : Bool) : BR (w.setCell ⟨g, x, none⟩ (.bool b)) C (.slice (some ⟨g, 0, none⟩) l.length cap) (l.set x b) := by
  refine ⟨by simp, ?_⟩
  rcases h.2 with ⟨h1, _⟩ | ⟨g', cap', cur, h1, h2, h3, h4, h5, h6, h7⟩
  · cases h1
  · cases h1
    refine .inr ⟨g, cap, cur.setIfInBounds x (.bool b), by simp, h2, cells_set h3 x _, by simpa using h4, h5, by simpa using h6, ?_⟩
    have e : (cur.setIfInBounds x (.bool b)).toList = cur.toList.set x (.bool b) := by simp
    rw [e, List.length_set]
    have e2 : bools (l.set x b) = (bools l).set x (.bool b) := by simp [List.map_set]
    rw [e2, ← h7, List.take_set]

/-- What was seen at an instruction. -/
def SeE (B n : Nat) (w : World) (cs : List Value) (i : Nat) (v : Value) : Option (List Int × List Bool) → Prop
  | none => cs[i * 3]? = some (.bool false)
  | some (st, l) => cs[i * 3]? = some (.bool true) ∧ (∃ s : ByteArray, cs[i * 3 + 1]? = some (.string s) ∧ s.data.toList = (st.map Vf.ltr).reverse) ∧ cs[i * 3 + 2]? = some v ∧ BR w B v l ∧ l.length = n
/-- What was seen; X is a row of truths that is none of these. -/
def SeAt (B n len SB : Nat) (come : Nat → Option (List Int × List Bool)) (X : Option Nat) (w : World) : Prop :=
  ∃ (cs : List Value) (vs : Nat → Value), w.heap[SB]? = some (.cells (List.toArray cs) 76 (0, 0)) ∧ cs.length = len * 3 ∧ (∀ i, i < len → SeE B n w cs i (vs i) (come i)) ∧
    (∀ i j g, i < len → j < len → come i ≠ none → come j ≠ none → (vs i).ownBlock = some g → (vs j).ownBlock = some g → i = j) ∧ (∀ i g, i < len → come i ≠ none → (vs i).ownBlock = some g → some g ≠ X)
theorem SeE.keep {B n : Nat} {w w' : World} {cs : List Value} {i : Nat} {v : Value} : ∀ {o : Option (List Int × List Bool)}, SeE B n w cs i v o → (∀ g bs, o ≠ none → v.ownBlock = some g → w.heap[g]? = some (.cells bs 4 (0, 0)) → w'.heap[g]? = w.heap[g]?) → SeE B n w' cs i v o
  | none, h, _ => h
  | some (st, l), ⟨h1, h2, h3, h4, h5⟩, hk => ⟨h1, h2, h3, br_keep h4 (fun g bs hg hb => hk g bs (by simp) hg hb), h5⟩
theorem SeAt.keep {B n len SB : Nat} {come : Nat → Option (List Int × List Bool)} {X : Option Nat} {w w' : World} (h : SeAt B n len SB come X w) (hs : w'.heap[SB]? = w.heap[SB]?) (hb : ∀ g cs, some g ≠ X → w.heap[g]? = some (.cells cs 4 (0, 0)) → w'.heap[g]? = w.heap[g]?) : SeAt B n len SB come X w' := by
  obtain ⟨cs, vs, h1, h2, h3, h4, h5⟩ := h
  exact ⟨cs, vs, hs.trans h1, h2, fun i hi => (h3 i hi).keep (fun g bs hn hg hb' => hb g bs (h5 i g hi hn hg) hb'), h4, h5⟩
theorem SeAt.blk {B n len SB : Nat} {come : Nat → Option (List Int × List Bool)} {X : Option Nat} {w : World} (h : SeAt B n len SB come X w) : ∃ cs, w.heap[SB]? = some (.cells cs 76 (0, 0)) := by
  obtain ⟨cs, vs, h1, _⟩ := h
  exact ⟨_, h1⟩
theorem SeAt.lt {B n len SB : Nat} {come : Nat → Option (List Int × List Bool)} {X : Option Nat} {w : World} (h : SeAt B n len SB come X w) : SB < w.heap.size := by
  obtain ⟨cs, h1⟩ := h.blk
  exact lt_of_block h1
theorem SeAt.grown {B n len SB : Nat} {come : Nat → Option (List Int × List Bool)} {X : Option Nat} {w w' : World} (h : SeAt B n len SB come X w) (hg : w.grownBy w' none) : SeAt B n len SB come X w' :=
  h.keep (kept0 hg h.lt) (fun _ _ _ hc => kept0 hg (lt_of_block hc))
/-- A block of other things may turn. -/
theorem SeAt.other {B n len SB N : Nat} {come : Nat → Option (List Int × List Bool)} {X : Option Nat} {w w' : World} {o : Obj} (h : SeAt B n len SB come X w) (hg : w.grownBy w' (some N)) (ho : w.heap[N]? = some o) (h1 : ∀ cs, o ≠ .cells cs 76 (0, 0)) (h2 : ∀ cs, o ≠ .cells cs 4 (0, 0)) : SeAt B n len SB come X w' := by
  refine h.keep (hg.block _ h.lt (fun e => ?_)) (fun g cs _ hc => hg.block _ (lt_of_block hc) (fun e => ?_))
  · cases e
    obtain ⟨cs, hb⟩ := h.blk
    rw [ho] at hb
    cases hb
    exact h1 _ rfl
  · cases e
    rw [ho] at hc
    cases hc
    exact h2 _ rfl
theorem SeAt.forget {B n len SB : Nat} {come : Nat → Option (List Int × List Bool)} {X : Option Nat} {w : World} (h : SeAt B n len SB come X w) : SeAt B n len SB come none w := by
  obtain ⟨cs, vs, h1, h2, h3, h4, h5⟩ := h
  exact ⟨cs, vs, h1, h2, h3, h4, fun _ _ _ _ _ e => by cases e⟩
/-- A row of truths that came since. -/
theorem SeAt.now {B n len SB X : Nat} {come : Nat → Option (List Int × List Bool)} {w w' : World} (h : SeAt B n len SB come none w) (hg : w.grownBy w' none) (hX : w.heap.size ≤ X) : SeAt B n len SB come (some X) w' := by
  have h' := h.grown hg
  obtain ⟨cs, vs, h1, h2, h3, h4, h5⟩ := h
  obtain ⟨cs', h1'⟩ := h'.blk
  refine ⟨cs, vs, (kept0 hg (lt_of_block h1)).trans h1, h2, fun i hi => (h3 i hi).keep (fun g bs _ _ hb => kept0 hg (lt_of_block hb)), h4, fun i g hi hn hg' e => ?_⟩
  cases e
  cases hc : come i with
  | none => exact hn hc
  | some p =>
    obtain ⟨st, l⟩ := p
    have := h3 i hi
    rw [hc] at this
    obtain ⟨_, bs, hb⟩ := br_ty this.2.2.2.1 hg'
    have := lt_of_block hb
    omega
theorem cell_row {w : World} {N i : Nat} {cs : List Value} {t : TypeId} {v : Value} (h : w.heap[N]? = some (.cells (List.toArray cs) t (0, 0))) (hv : cs[i]? = some v) : w.cell? ⟨N, i, none⟩ = some v := by
  simp [World.cell?, h, hv]
theorem cell_row' {w : World} {N i : Nat} {cs : List Value} {t : TypeId} {v : Value} (h : w.heap[N]? = some (.cells (List.toArray cs) t (0, 0))) (hv : w.cell? ⟨N, i, none⟩ = some v) : cs[i]? = some v := by
  simpa [World.cell?, h] using hv
theorem frozen_row {w : World} {N i : Nat} {cs : Array Value} {t : TypeId} (h : w.heap[N]? = some (.cells cs t (0, 0))) : w.frozen? ⟨N, i, none⟩ = false := by
  simp [World.frozen?, h]
theorem SeAt.no {B n len SB i : Nat} {come : Nat → Option (List Int × List Bool)} {X : Option Nat} {w : World} (h : SeAt B n len SB come X w) (hi : i < len) (hc : come i = none) :
    w.cell? ⟨SB, i * 3, none⟩ = some (.bool false) ∧ (∃ v, w.cell? ⟨SB, i * 3 + 1, none⟩ = some v) ∧ (∃ v, w.cell? ⟨SB, i * 3 + 2, none⟩ = some v) := by
  obtain ⟨cs, vs, h1, h2, h3, h4, h5⟩ := h
  have := h3 i hi
  rw [hc] at this
  refine ⟨cell_row h1 this, ⟨cs[i * 3 + 1]'(by omega), cell_row h1 (List.getElem?_eq_getElem _)⟩, ⟨cs[i * 3 + 2]'(by omega), cell_row h1 (List.getElem?_eq_getElem _)⟩⟩
theorem SeAt.frozen {B n len SB : Nat} {come : Nat → Option (List Int × List Bool)} {X : Option Nat} {w : World} (h : SeAt B n len SB come X w) (i : Nat) : w.frozen? ⟨SB, i, none⟩ = false := by
  obtain ⟨cs, h1⟩ := h.blk
  exact frozen_row h1
theorem SeAt.yes {B n len SB i : Nat} {come : Nat → Option (List Int × List Bool)} {X : Option Nat} {w : World} (h : SeAt B n len SB come X w) (hi : i < len) {st : List Int} {l : List Bool} (hc : come i = some (st, l)) :
    ∃ s v, w.cell? ⟨SB, i * 3, none⟩ = some (.bool true) ∧ w.cell? ⟨SB, i * 3 + 1, none⟩ = some (.string s) ∧ w.cell? ⟨SB, i * 3 + 2, none⟩ = some v ∧ s.data.toList = (st.map Vf.ltr).reverse ∧ BR w B v l ∧ l.length = n ∧ (∀ g, v.ownBlock = some g → some g ≠ X) := by
  obtain ⟨cs, vs, h1, h2, h3, h4, h5⟩ := h
  have := h3 i hi
  rw [hc] at this
  obtain ⟨e1, ⟨s, e2, e3⟩, e4, e5, e6⟩ := this
  exact ⟨s, vs i, cell_row h1 e1, cell_row h1 e2, cell_row h1 e4, e3, e5, e6, fun g hg => h5 i g hi (by rw [hc]; simp) hg⟩
def upd (come : Nat → Option (List Int × List Bool)) (i : Nat) (p : List Int × List Bool) : Nat → Option (List Int × List Bool) := fun j => if j = i then some p else come j
theorem three_set {w : World} {N i : Nat} {cs : List Value} {t : TypeId} (h : w.heap[N]? = some (.cells (List.toArray cs) t (0, 0))) (a b c : Value) :
    (((w.setCell ⟨N, i, none⟩ a).setCell ⟨N, i + 1, none⟩ b).setCell ⟨N, i + 2, none⟩ c).heap[N]? = some (.cells (List.toArray (((cs.set i a).set (i + 1) b).set (i + 2) c)) t (0, 0)) := set_row (set_row (set_row h i a) (i + 1) b) (i + 2) c
theorem three_far {w : World} {N i : Nat} (a b c : Value) {k : Nat} (hk : k ≠ N) : (((w.setCell ⟨N, i, none⟩ a).setCell ⟨N, i + 1, none⟩ b).setCell ⟨N, i + 2, none⟩ c).heap[k]? = w.heap[k]? :=
  (Below.heap_setCell _ ⟨N, i + 2, none⟩ _ _ hk).trans ((Below.heap_setCell _ ⟨N, i + 1, none⟩ _ _ hk).trans (Below.heap_setCell _ ⟨N, i, none⟩ _ _ hk))
/-- SOMETHING IS SEEN THERE, with a row that came since. -/
theorem SeAt.put {B n len SB i : Nat} {come : Nat → Option (List Int × List Bool)} {X : Option Nat} {w0 w : World} {v : Value} {s : ByteArray} {st : List Int} {l : List Bool} (h : SeAt B n len SB come X w0) (hg : w0.grownBy w none) (hX : ∀ g, X = some g → g < w0.heap.size) (hB : B ≤ w0.heap.size) (hi : i < len) (hv : BR w w0.heap.size v l) (hl : l.length = n) (hs : s.data.toList = (st.map Vf.ltr).reverse) :
    SeAt B n len SB (upd come i (st, l)) X (((w.setCell ⟨SB, i * 3, none⟩ (.bool true)).setCell ⟨SB, i * 3 + 1, none⟩ (.string s)).setCell ⟨SB, i * 3 + 2, none⟩ v) := by
  obtain ⟨cs, vs, h1, h2, h3, h4, h5⟩ := h
  have h1' : w.heap[SB]? = some (.cells (List.toArray cs) 76 (0, 0)) := (kept0 hg (lt_of_block h1)).trans h1
  have hold : ∀ j g, j < len → come j ≠ none → (vs j).ownBlock = some g → g < w0.heap.size := fun j g hj hn hg' => by
    cases hc : come j with
    | none => exact absurd hc hn
    | some p =>
      obtain ⟨st', l'⟩ := p
      have := h3 j hj
      rw [hc] at this
      obtain ⟨_, bs, hb⟩ := br_ty this.2.2.2.1 hg'
      exact lt_of_block hb
  have hnew : ∀ g, v.ownBlock = some g → w0.heap.size ≤ g := fun g hg' => (br_ty hv hg').1
  refine ⟨((cs.set (i * 3) (.bool true)).set (i * 3 + 1) (.string s)).set (i * 3 + 2) v, fun j => if j = i then v else vs j, three_set h1' _ _ _, by simpa using h2, fun j hj => ?_, fun a b g ha hb hna hnb ga gb => ?_, fun j g hj hn hg' e => ?_⟩
  · by_cases hji : j = i
    · subst hji
      simp only [upd, if_true]
      refine ⟨?_, ⟨s, ?_, hs⟩, ?_, ?_, hl⟩
      · rw [List.getElem?_set_ne (by omega), List.getElem?_set_ne (by omega), List.getElem?_set_self (by omega)]
      · rw [List.getElem?_set_ne (by omega), List.getElem?_set_self (by simp; omega)]
      · rw [List.getElem?_set_self (by simp; omega)]
      · refine br_keep (own_base hv hB) (fun g bs hg' hb => three_far _ _ _ (fun e => ?_))
        subst e
        rw [h1'] at hb
        simp at hb
    · simp only [upd, if_neg hji]
      have h6 := (h3 j hj).keep (w' := ((w.setCell ⟨SB, i * 3, none⟩ (.bool true)).setCell ⟨SB, i * 3 + 1, none⟩ (.string s)).setCell ⟨SB, i * 3 + 2, none⟩ v) (fun g bs _ _ hb => (three_far _ _ _ (fun e => by
        subst e
        rw [h1] at hb
        simp at hb)).trans (kept0 hg (lt_of_block hb)))
      have same : ∀ q, q = j * 3 ∨ q = j * 3 + 1 ∨ q = j * 3 + 2 → (((cs.set (i * 3) (.bool true)).set (i * 3 + 1) (.string s)).set (i * 3 + 2) v)[q]? = cs[q]? := fun q hq => by
        rw [List.getElem?_set_ne (by omega), List.getElem?_set_ne (by omega), List.getElem?_set_ne (by omega)]
      cases hc : come j with
      | none =>
        rw [hc] at h6
        exact (same _ (.inl rfl)).trans h6
      | some p =>
        obtain ⟨st', l'⟩ := p
        rw [hc] at h6
        obtain ⟨e1, ⟨s', e2, e3⟩, e4, e5, e6⟩ := h6
        exact ⟨(same _ (.inl rfl)).trans e1, ⟨s', (same _ (.inr (.inl rfl))).trans e2, e3⟩, (same _ (.inr (.inr rfl))).trans e4, e5, e6⟩
  · by_cases hai : a = i <;> by_cases hbi : b = i
    · rw [hai, hbi]
    · simp only [hai, hbi, if_true, if_false, upd] at ga gb hnb
      have := hnew g ga
      have := hold b g hb hnb gb
      omega
    · simp only [hai, hbi, if_true, if_false, upd] at ga gb hna
      have := hnew g gb
      have := hold a g ha hna ga
      omega
    · simp only [hai, hbi, if_false, upd] at ga gb hna hnb
      exact h4 a b g ha hb hna hnb ga gb
  · by_cases hji : j = i
    · simp only [hji, if_true] at hg'
      have := hnew g hg'
      have := hX g e.symm
      omega
    · simp only [hji, if_false, upd] at hg' hn
      exact h5 j g hj hn hg' e
/-- A truth goes from what was seen. -/
theorem SeAt.clear {B n len SB i x g cap : Nat} {come : Nat → Option (List Int × List Bool)} {X : Option Nat} {w : World} {st : List Int} {l : List Bool} (h : SeAt B n len SB come X w) (hi : i < len) (hc : come i = some (st, l)) (hv : w.cell? ⟨SB, i * 3 + 2, none⟩ = some (.slice (some ⟨g, 0, none⟩) n cap)) :
    SeAt B n len SB (upd come i (st, l.set x false)) X (w.setCell ⟨g, x, none⟩ (.bool false)) := by
  obtain ⟨cs, vs, h1, h2, h3, h4, h5⟩ := h
  have hi3 := h3 i hi
  rw [hc] at hi3
  obtain ⟨e1, ⟨s, e2, e3⟩, e4, e5, e6⟩ := hi3
  have ev : vs i = .slice (some ⟨g, 0, none⟩) n cap := by
    have := cell_row' h1 hv
    rw [e4] at this
    exact Option.some.inj this
  rw [ev] at e4 e5
  obtain ⟨_, bs, hb⟩ := br_ty e5 (g := g) rfl
  have hgS : SB ≠ g := fun e => by
    subst e
    rw [h1] at hb
    simp at hb
  subst e6
  refine ⟨cs, vs, (Below.heap_setCell _ ⟨g, x, none⟩ _ _ hgS).trans h1, h2, fun j hj => ?_, fun a b g' ha hb' hna hnb ga gb => h4 a b g' ha hb' (fun e => hna ?_) (fun e => hnb ?_) ga gb, fun j g' hj hn hg' => h5 j g' hj (fun e => hn ?_) hg'⟩
  · by_cases hji : j = i
    · subst hji
      simp only [upd, if_true]
      rw [ev]
      exact ⟨e1, ⟨s, e2, e3⟩, e4, br_set e5 false, by simp⟩
    · simp only [upd, if_neg hji]
      refine (h3 j hj).keep (fun g' bs' hn hg' hb' => Below.heap_setCell _ ⟨g, x, none⟩ _ _ (fun e => hji ?_))
      have e' : g' = g := e
      subst e'
      exact h4 j i g' hj hi hn (by rw [hc]; simp) hg' (by rw [ev]; rfl)
  · by_cases hai : a = i
    · subst hai; rw [hc] at e; cases e
    · unfold upd; rw [if_neg hai]; exact e
  · by_cases hbi : b = i
    · subst hbi; rw [hc] at e; cases e
    · unfold upd; rw [if_neg hbi]; exact e
  · by_cases hji : j = i
    · subst hji; rw [hc] at e; cases e
    · unfold upd; rw [if_neg hji]; exact e
end Go.Proofs.Ytbkimpimoclobaa

