/- The document's int and count, told by what is still to come; a row that grows in a field while the walk goes on. -/
import Derived.Test.YtnfkfgpnojdfoaaIm26
import Derived.Test.YtnfkfgpnojdfoaaIm16
import Derived.Test.YtnfkfgpnojdfoaaIm17
import Derived.Test.YtnfkfgpnojdfoaaIm18
namespace Go.Proofs.Ytnfkfgpnojdfoaa
open Go.RowKit

/-- What is told of r, where so many bytes are behind and maybe something was bad. -/
abbrev Due {β : Type} (r : Option β) (bad : Bool) (x : Option β) : Prop := r = if bad then none else x

theorem num_k {β : Type} (T b : Nat) (L : List Nat) (i : Nat) (bad : Bool) (w : World) (h : Hid (WK w T b L i bad)) (K : Int → List Nat → Option β) (r : Option β) (hr : Hid (Due r bad ((Im.rn (L.drop i)).bind fun p => K p.1 p.2))) :
    Calls Try.prog 24 #[.pointer (some ⟨T, 0, none⟩)] w fun e w' => ∃ n i' bad', e = .returned (.int .i64 n) ∧ WK w' T b L i' bad' ∧ Kr T w w' ∧ Due r bad' (K n (L.drop i')) := by
  refine (num_w T b L i bad w h _ (hide rfl)).mono ?_
  rintro e w' ⟨n, i', bad', rfl, hW, hK, hm⟩
  refine ⟨n, i', bad', rfl, hW, hK, ?_⟩
  have hr' := hr.out
  unfold Due at hr' ⊢
  cases bad with
  | true =>
    have hb : bad' = true := hm
    subst hb
    exact hr'
  | false =>
    simp only [Bool.false_eq_true, if_false] at hr' hm
    cases hn : Im.rn (L.drop i) with
    | none =>
      rw [hn] at hr' hm
      have hb : bad' = true := hm
      subst hb
      exact hr'
    | some p =>
      rw [hn] at hr' hm
      obtain ⟨rfl, rfl, h2⟩ := hm
      rw [h2]
      exact hr'

set_option maxHeartbeats 400000 in
theorem int_k {β : Type} (T b : Nat) (L : List Nat) (i : Nat) (bad : Bool) (w : World) (h : Hid (WK w T b L i bad)) (K : Int → List Nat → Option β) (r : Option β) (hr : Hid (Due r bad ((Im.rn (L.drop i)).bind fun p => K p.1 p.2))) :
    Calls Try.prog 23 #[.pointer (some ⟨T, 0, none⟩)] w fun e w' => ∃ n i' bad', e = .returned (.int .i64 n) ∧ WK w' T b L i' bad' ∧ Kr T w w' ∧ Due r bad' (K n (L.drop i')) := by
  go_enter Try.func23, Try.ntmps23
  go_wp2_with fail
  refine (num_k T b L i bad _ h K r hr).mono ?_
  rintro e w2 ⟨n, i', bad', rfl, hW, hK, hd⟩
  have HX := hide (And.intro hW (And.intro hK hd))
  clear hW hK hd
  go_wp2
  go_ret
  exact ⟨n, i', bad', rfl, HX.out.1, HX.out.2.1, HX.out.2.2⟩

theorem Im.rep_few {α : Type} {f : List Nat → Option (α × List Nat)} (hf : ∀ l x r, f l = some (x, r) → r.length < l.length) : ∀ (n : Nat) (l : List Nat) (xs : List α) (r : List Nat), Im.rep f n l = some (xs, r) → r.length + n ≤ l.length
  | 0, l, xs, r, h => by simp [Im.rep] at h; rw [h.2]; exact Nat.le_refl _
  | n + 1, l, xs, r, h => by
    simp only [Im.rep] at h
    obtain ⟨⟨x, l1⟩, h1, h⟩ := Option.bind_eq_some_iff.1 h
    obtain ⟨⟨ys, l2⟩, h2, h⟩ := Option.bind_eq_some_iff.1 h
    simp at h
    obtain ⟨_, rfl⟩ := h
    have e1 := hf _ _ _ h1
    have e2 := Im.rep_few hf n _ _ _ h2
    simp only at e2
    omega
theorem Im.rep_much {α : Type} {f : List Nat → Option (α × List Nat)} (hf : ∀ l x r, f l = some (x, r) → r.length < l.length) {n : Nat} {l : List Nat} (h : l.length < n) : Im.rep f n l = none := by
  cases hr : Im.rep f n l with
  | none => rfl
  | some p => have := Im.rep_few hf n l p.1 p.2 hr; omega

set_option maxRecDepth 100000 in
set_option maxHeartbeats 2000000 in
theorem count_k {α β : Type} (T b : Nat) (L : List Nat) (i : Nat) (bad : Bool) (w : World) (h : Hid (WK w T b L i bad)) (f : List Nat → Option (α × List Nat)) (hf : Hid (∀ l x r, f l = some (x, r) → r.length < l.length)) (g : List α × List Nat → Option β) (r : Option β) (hr : Hid (Due r bad ((Im.rcount (L.drop i)).bind fun p => (Im.rep f p.1.toNat p.2).bind g))) :
    Calls Try.prog 22 #[.pointer (some ⟨T, 0, none⟩)] w fun e w' => ∃ (n i' : Nat) (bad' : Bool), e = .returned (.int .i64 n) ∧ n ≤ 60000 ∧ WK w' T b L i' bad' ∧ Kr T w w' ∧ Due r bad' ((Im.rep f n (L.drop i')).bind g) := by
  have HR : Hid (Due r bad ((Im.rn (L.drop i)).bind fun p => if p.1 < 0 then none else (Im.rep f p.1.toNat p.2).bind g)) := by
    have e : (Im.rcount (L.drop i)).bind (fun p => (Im.rep f p.1.toNat p.2).bind g) = (Im.rn (L.drop i)).bind fun p => if p.1 < 0 then none else (Im.rep f p.1.toNat p.2).bind g := by
      unfold Im.rcount
      cases Im.rn (L.drop i) with
      | none => rfl
      | some p =>
        simp only [Option.bind_some]
        split <;> rfl
    have := hr.out
    rw [e] at this
    exact this
  clear hr
  go_enter Try.func22, Try.ntmps22
  go_wp2_with fail
  refine (num_k T b L i bad _ h (fun n l => if n < 0 then none else (Im.rep f n.toNat l).bind g) r HR).mono ?_
  rintro e w2 ⟨n, i', bad', rfl, hW, hK, hd⟩
  have HW := hide hW
  have HK := hide hK
  have HD := hide hd
  obtain ⟨o, c, c0, c1, c2, f1, f2, _⟩ := hW.cells
  have hle := hW.le
  have hfew := hW.few
  clear hW hK hd HR
  by_cases h0 : n < 0
  · have HN : Hid (r = none) := by
      have := HD.out
      unfold Due at this
      rw [if_pos h0] at this
      cases bad' <;> exact this
    go_wp2
    go_quiet (fail)
    go_wp2
    go_ret
    exact ⟨0, i', true, rfl, by decide, (HW.out.drewN _).bad, (HK.out.drewN _).set (a := ⟨T, 2, none⟩) (.inl rfl) _, HN.out⟩
  · obtain ⟨nn, rfl⟩ : ∃ nn : Nat, n = nn := ⟨n.toNat, by omega⟩
    have hlen : (L.drop i').length = L.length - i' := by simp
    obtain ⟨D, hD⟩ : ∃ D, D = L.length - i' := ⟨_, rfl⟩
    have e0 : IntKind.i64.wrap ((L.length : Int) - (i' : Int)) = (D : Int) := by rw [IntKind.wrap_i64]; omega
    rw [← hD] at hlen
    have hD6 : D ≤ 60000 := by omega
    clear hD
    have n0 : ¬ (nn : Int) < 0 := by omega
    by_cases h1 : D < nn
    · have HN : Hid (r = none) := by
        have := HD.out
        unfold Due at this
        rw [if_neg h0, Int.toNat_natCast, Im.rep_much hf.out (by omega)] at this
        cases bad' <;> exact this
      have e1 : (D : Int) < (nn : Int) := by omega
      clear hlen
      go_wp2
      go_quiet (fail)
      go_wp2
      go_ret
      exact ⟨0, i', true, rfl, by decide, (HW.out.drewN _).bad, (HK.out.drewN _).set (a := ⟨T, 2, none⟩) (.inl rfl) _, HN.out⟩
    · have e1 : ¬ (D : Int) < (nn : Int) := by omega
      have HN : Hid (Due r bad' ((Im.rep f nn (L.drop i')).bind g)) := by
        have := HD.out
        rw [if_neg h0, Int.toNat_natCast] at this
        exact this
      have h60 : nn ≤ 60000 := by omega
      clear hlen
      cases bad' with
      | true =>
        go_wp2
        go_quiet (fail)
        go_wp2
        go_ret
        exact ⟨0, i', true, rfl, by decide, HW.out.drewN _, HK.out.drewN _, HN.out⟩
      | false =>
        go_wp2
        go_quiet (fail)
        go_wp2
        go_ret
        exact ⟨nn, i', false, rfl, h60, HW.out.drewN _, HK.out.drewN _, HN.out⟩

/-- What holds at the head of a loop that fills a field's row. -/
structure FW (T b D : Nat) (cs : List Value) (tD : TypeId) (fo : Nat) (e : TypeId) (sz : Nat) (wa : World) (k : Nat) (row : List Value) (L : List Nat) (i : Nat) (bad : Bool) (v : Value) (W : World) : Prop where
  kr : Kr2 T D wa W
  wk : WK W T b L i bad
  blk : W.heap[D]? = some (.cells (cs.set fo v).toArray tD (0, 0))
  own : W.ownsRow wa.heap.size e sz v k row

theorem FW.cell {T b D : Nat} {cs : List Value} {tD : TypeId} {fo : Nat} {e : TypeId} {sz : Nat} {wa : World} {k : Nat} {row : List Value} {L : List Nat} {i : Nat} {bad : Bool} {v : Value} {W : World} (h : FW T b D cs tD fo e sz wa k row L i bad v W) (hfo : fo < cs.length) (hDT : D ≠ T) {w1 : World} (hk : Kr T W w1) :
    w1.cell? ⟨D, fo, none⟩ = some v ∧ w1.frozen? ⟨D, fo, none⟩ = false := by
  have : w1.heap[D]? = some (.cells (cs.set fo v).toArray tD (0, 0)) := (hk.blk D (lt_of_block h.blk) hDT).trans h.blk
  constructor
  · simp [World.cell?, this, hfo]
  · simp [World.frozen?, this]
theorem FW.row {T b D : Nat} {cs : List Value} {tD : TypeId} {fo : Nat} {e : TypeId} {sz : Nat} {wa : World} {k : Nat} {row : List Value} {L : List Nat} {i : Nat} {bad : Bool} {v : Value} {W : World} (h : FW T b D cs tD fo e sz wa k row L i bad v W) (hT : T < wa.heap.size) {w1 : World} (hk : Kr T W w1) : w1.ownsRow wa.heap.size e sz v k row :=
  own_keep h.own (fun j hj => hk.blk j (h.own.lt j hj).2 (by have := (h.own.lt j hj).1; omega))
theorem FW.step {T b D : Nat} {cs : List Value} {tD : TypeId} {fo : Nat} {e : TypeId} {sz : Nat} {wa : World} {k : Nat} {row news : List Value} {L : List Nat} {i i' : Nat} {bad bad' : Bool} {v v' : Value} {W w1 w4 : World} {ob : Obj} (h : FW T b D cs tD fo e sz wa k row L i bad v W) (hDT : D ≠ T) (hDb : D ≠ b) (hT : T < wa.heap.size) (hb : b < wa.heap.size) (he : tD ≠ e)
    (hk : Kr T W w1) (hwk : WK w1 T b L i' bad') (hown : w4.ownsRow wa.heap.size e sz v' (k + 1) (row ++ news)) (hg : (w1.alloc ob).grownBy w4 v.ownBlock) : FW T b D cs tD fo e sz wa (k + 1) (row ++ news) L i' bad' v' (w4.setCell ⟨D, fo, none⟩ v') ∧ w4.cell? ⟨D, fo, none⟩ = w1.cell? ⟨D, fo, none⟩ ∧ w4.frozen? ⟨D, fo, none⟩ = false := by
  have hD1 : w1.heap[D]? = some (.cells (cs.set fo v).toArray tD (0, 0)) := (hk.blk D (lt_of_block h.blk) hDT).trans h.blk
  have hrow := h.row hT hk
  have hz := hg.size
  simp at hz
  have hs1 := h.kr.size
  have hs2 := hk.size
  have blk : ∀ j, j < w1.heap.size → v.ownBlock ≠ some j → w4.heap[j]? = w1.heap[j]? := fun j hj h1 => (hg.block j (by simp; omega) (fun e => h1 e.symm)).trans (Below.heap_alloc _ _ _ hj)
  have low : ∀ j, j < wa.heap.size → v.ownBlock ≠ some j := fun j hj e => by have := (hrow.lt j e).1; omega
  have hD4 : w4.heap[D]? = some (.cells (cs.set fo v).toArray tD (0, 0)) := (blk D (lt_of_block hD1) (own_ty hrow hD1 he)).trans hD1
  refine ⟨⟨⟨?_, ?_, ?_, ?_, fun j hj h1 h2 => ?_⟩, ?_, ?_, own_keep hown (fun j hj => Below.heap_setCell _ _ _ _ (fun e => ?_))⟩, ?_, ?_⟩
  · exact hg.os.trans (hk.os.trans h.kr.os)
  · exact hg.tape.trans (hk.tape.trans h.kr.tape)
  · exact hg.output.trans (hk.output.trans h.kr.output)
  · simp [World.setCell]; omega
  · rw [Below.heap_setCell _ ⟨D, fo, none⟩ _ _ h2, blk j (by omega) (low j hj), hk.blk j (by omega) h1]
    exact h.kr.blk j hj h1 h2
  · refine hwk.far ?_ ?_ (by simp [World.setCell]; omega)
    · rw [Below.heap_setCell _ ⟨D, fo, none⟩ _ _ (fun e => hDT e.symm)]
      exact blk T (by omega) (low T hT)
    · rw [Below.heap_setCell _ ⟨D, fo, none⟩ _ _ (fun e => hDb e.symm)]
      exact blk b (by omega) (low b hb)
  · have := set_rowR hD4 fo v'
    simpa using this
  · subst e
    exact own_ty hown hD4 he hj
  · exact cell_eq (hD4.trans hD1.symm) _
  · simp [World.frozen?, hD4]
theorem FW.start {T b D : Nat} {cs : List Value} {tD : TypeId} {fo : Nat} (e : TypeId) (sz : Nat) {wa : World} {L : List Nat} {i : Nat} {bad : Bool} (hwk : WK wa T b L i bad) (hD : wa.heap[D]? = some (.cells cs.toArray tD (0, 0))) (hfo : cs[fo]? = some (.slice none 0 0)) : FW T b D cs tD fo e sz wa 0 [] L i bad (.slice none 0 0) wa := by
  refine ⟨Kr2.refl _ _ _, hwk, ?_, World.ownsRow_nil _ _ _ _⟩
  rw [hD]
  congr 3
  obtain ⟨h1, h2⟩ := List.getElem?_eq_some_iff.1 hfo
  rw [← h2, List.set_getElem_self]

end Go.Proofs.Ytnfkfgpnojdfoaa
