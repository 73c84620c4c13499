/- The walks of set, do and words. -/
import Derived.Test.YtnfbfdajdflfgaaGreatM7
namespace Go.Proofs.YtnfbfdajdflfgaaGreat.Sb
open Go.RowKit

set_option maxHeartbeats 400000 in
theorem set_good (S g : Nat) (ws : List Int) (r mn most k : Nat) (v : Int) (w : World) (h : Hid (SK w S g ws r mn most)) (hk : k < ws.length) :
    Calls Tryz.prog 47 #[.pointer (some ⟨S, 0, none⟩), .int .i64 k, .int .i64 v] w fun e w' => e = .returned (.int .i64 0) ∧ SK w' S g (ws.set k v) r mn most ∧ Mv w w' S g := by
  obtain ⟨c0, c1, c2, c3⟩ := h.out.cells
  have hfit := h.out.2.2
  unfold Sk.Fits at hfit
  obtain ⟨h3, h4, h5, h6, h7⟩ := hfit
  obtain ⟨u, cu, fu⟩ := h.out.2.1.at k (by omega)
  have hne : ¬ g = S := fun e => h.out.ne e.symm
  have n0 : (0 : Int) ≤ (k : Int) := by omega
  have n1 : (k : Int) < (ws.length : Int) := by omega
  have n2 : (k : Int) < (r : Int) := by omega
  go_enter Tryz.func47, Tryz.ntmps47
  go_wp2
  go_ret
  refine ⟨rfl, ⟨?_, h.out.2.1.put k v, ?_⟩, (Mv.refl w S g).set (.inr (.inl rfl)) _⟩
  · rw [List.length_set]; exact (Below.heap_setCell _ _ _ _ (fun e => hne e.symm)).trans h.out.1
  · rw [List.length_set]; exact h.out.2.2

/-- What a doing leaves. -/
def Did (w w' : World) (S g mn most E : Nat) (ws : List Int) (r : Nat) : Prop := (E = 0 → ∃ g', SK w' S g' ws r mn most ∧ (g' = g ∨ w.heap.size ≤ g')) ∧ Mv w w' S g

theorem Sk.err1 (most c : Nat) (o : Sk.Op) (h : o.kind = 1) : Sk.err most c o = if c = most then 4 else 0 := by unfold Sk.err; rw [if_pos h]
theorem Sk.err2 (most c : Nat) (o : Sk.Op) (h : o.kind = 2) : Sk.err most c o = if o.n < 0 ∨ (c : Int) < o.n then 3 else 0 := by unfold Sk.err; rw [if_neg (by omega), if_pos h]
theorem push_any (S g : Nat) (ws : List Int) (r mn most : Nat) (o : Sk.Op) (w : World) (h : Hid (SK w S g ws r mn most)) (ho : o.kind = 1) :
    Calls Tryz.prog 40 #[.pointer (some ⟨S, 0, none⟩), .int .i64 o.v] w fun e w' => e = .returned (.int .i64 (Sk.err most ws.length o : Nat)) ∧ Did w w' S g mn most (Sk.err most ws.length o) (Sk.wds ws o) (Sk.rm mn most r ws.length o) := by
  rw [Sk.err1 _ _ _ ho]
  have hfit := h.out.2.2
  have hS := lt_of_block h.out.1
  by_cases hm : ws.length = most
  · rw [if_pos hm]
    refine (push_full S g ws r mn most o.v w h hm).mono ?_
    rintro e w' ⟨rfl, hM⟩
    exact ⟨rfl, fun h => by omega, hM⟩
  · rw [if_neg hm]
    have he : Sk.err most ws.length o = 0 := by rw [Sk.err1 _ _ _ ho, if_neg hm]
    have hf2 := Sk.fits_next hfit he
    have ew : Sk.wds ws o = ws ++ [o.v] := by unfold Sk.wds; rw [if_pos ho]
    have er : Sk.rm mn most r ws.length o = if ws.length = r then min (2 * r) most else r := by unfold Sk.rm; rw [if_pos ho]
    rw [ew, er] at hf2
    rw [ew, er]
    unfold Sk.Fits at hfit
    by_cases hr : ws.length = r
    · rw [if_pos hr] at hf2 ⊢
      refine (push_grow S g ws r (min (2 * r) most) mn most o.v w h hr (by omega) rfl).mono ?_
      rintro e w' ⟨rfl, hS', hC, hM⟩
      exact ⟨rfl, fun _ => ⟨w.heap.size, ⟨by simpa using hS', hC, hf2⟩, .inr (Nat.le_refl _)⟩, hM⟩
    · rw [if_neg hr] at hf2 ⊢
      refine (push_room S g ws r mn most o.v w h (by omega)).mono ?_
      rintro e w' ⟨rfl, hS', hC, hM⟩
      exact ⟨rfl, fun _ => ⟨g, ⟨by simpa using hS', hC, hf2⟩, .inl rfl⟩, hM⟩

theorem pop_any (S g : Nat) (ws : List Int) (r mn most : Nat) (o : Sk.Op) (w : World) (h : Hid (SK w S g ws r mn most)) (ho : o.kind = 2) :
    Calls Tryz.prog 69 #[.pointer (some ⟨S, 0, none⟩), .int .i64 o.n] w fun e w' => e = .returned (.int .i64 (Sk.err most ws.length o : Nat)) ∧ Did w w' S g mn most (Sk.err most ws.length o) (Sk.wds ws o) (Sk.rm mn most r ws.length o) := by
  rw [Sk.err2 _ _ _ ho]
  by_cases hm : o.n < 0 ∨ (ws.length : Int) < o.n
  · rw [if_pos hm]
    refine (pop_bad S g ws r mn most o.n w h hm).mono ?_
    rintro e w' ⟨rfl, hM⟩
    exact ⟨rfl, fun h => by omega, hM⟩
  · rw [if_neg hm]
    obtain ⟨k, hk⟩ : ∃ k : Nat, o.n = k := ⟨o.n.toNat, by omega⟩
    have ew : Sk.wds ws o = ws.take (ws.length - k) := by unfold Sk.wds; rw [if_neg (by omega), if_pos ho, hk]; rfl
    have er : Sk.rm mn most r ws.length o = if ws.length - k ≤ r / 4 ∧ mn < r then max (r / 2) mn else r := by unfold Sk.rm; rw [if_neg (by omega), if_pos ho, hk]; rfl
    rw [ew, er, hk]
    by_cases hc : ws.length - k ≤ r / 4 ∧ mn < r
    · rw [if_pos hc]
      refine (pop_move S g ws r (max (r / 2) mn) mn most k w h (by omega) hc.1 hc.2 rfl).mono ?_
      rintro e w' ⟨rfl, hS', hM⟩
      exact ⟨rfl, fun _ => ⟨w.heap.size, hS', .inr (Nat.le_refl _)⟩, hM⟩
    · rw [if_neg hc]
      refine (pop_keep S g ws r mn most k w h (by omega) hc).mono ?_
      rintro e w' ⟨rfl, hS', hM⟩
      exact ⟨rfl, fun _ => ⟨g, hS', .inl rfl⟩, hM⟩

theorem SK.alloc {w : World} {S g : Nat} {ws : List Int} {r mn most : Nat} (h : SK w S g ws r mn most) (o : Obj) : SK (w.alloc o) S g ws r mn most := by
  obtain ⟨cs, hc, hr⟩ := h.2.1
  exact ⟨(Below.heap_alloc _ _ _ (lt_of_block h.1)).trans h.1, ⟨cs, (Below.heap_alloc _ _ _ (lt_of_block hc)).trans hc, hr⟩, h.2.2⟩

end Go.Proofs.YtnfbfdajdflfgaaGreat.Sb

/- The walk of slices.Clone. -/
namespace Go.Proofs.YtnfbfdajdflfgaaGreat.Sb
open Go.RowKit

theorem CK.alloc {w : World} {g : Nat} {ws : List Int} {r : Nat} (h : CK w g ws r) (o : Obj) : CK (w.alloc o) g ws r := by
  obtain ⟨cs, hc, hr⟩ := h
  exact ⟨cs, (Below.heap_alloc _ _ _ (lt_of_block hc)).trans hc, hr⟩

theorem not_nil (g c r : Nat) (w : World) : Sem.run Tryz.prog (binOp BinOp.eql 28 (.slice (some ⟨g, 0, none⟩) c r) (.slice none 0 0)) w = .ok (.bool false) w := by kernel_rfl

set_option maxHeartbeats 400000 in
theorem clone_any (g : Nat) (ws : List Int) (r c : Nat) (w : World) (h : Hid (CK w g ws r)) (hc : Hid (c = ws.length)) (hl : ws.length ≤ 400) :
    Calls Tryz.prog 53 #[.slice (some ⟨g, 0, none⟩) c r] w fun e w' => ∃ v, e = .returned v ∧ w'.ownsRow w.heap.size 2 1 v ws.length (ints ws) ∧ Below w.heap.size w w' := by
  obtain ⟨i0, hi, hz0, hz1, hz2⟩ := info_parts Tryz.info2
  have hnn := not_nil g c r w
  have hcl : c ≤ 400 := by have := hc.out; omega
  go_enter Tryz.func53, Tryz.ntmps53
  have HO : Hid ((w.alloc (.cells #[] 2)).ownsRow w.heap.size 2 1 (.slice (some ⟨w.heap.size, 0, none⟩) 0 0) 0 []) := ⟨rfl, .inr ⟨w.heap.size, 0, #[], rfl, Nat.le_refl _, heap_alloc_new w _, Nat.le_refl _, Nat.zero_le _, rfl, rfl⟩⟩
  have HN : Hid (∀ j u, (ints ws)[j]? = some u → (w.alloc (.cells #[] 2)).cell? ((⟨g, 0, none⟩ : Addr).add j) = some u) := CK.cellAt (h.out.alloc _)
  have HL : Hid ((ints ws).length = c * 1) := by unfold Hid; have := hc.out; simp; omega
  go_wp2_with (at_builtin; refine wpList_append_own _ rfl _ _ 28 rfl w.heap.size 2 i0 (.int .i64 0) 1 8 Tryz.underlying28 hi hz0 hz1 hz2 rfl (by decide) _ _ _ rfl HO.out ⟨g, 0, none⟩ c r (ints ws) rfl HL.out HN.out (ints_one ws) (by unfold maxLen; omega) (by omega) (by simp) ?_; intro v' w3 hown hgrow hz)
  have HW : Hid (w3.ownsRow w.heap.size 2 1 v' ws.length (ints ws)) := by
    unfold Hid
    have := hown
    rw [hc.out] at this
    simpa using this
  have hg2 : (w.alloc (.cells #[] 2)).grownBy w3 (some w.heap.size) := hgrow
  have HB : Hid (Below w.heap.size w w3) := ((Below.refl _ w).alloc (Nat.le_refl _) _).grown hg2 (by simp) (fun k hk => by simp at hk; omega)
  clear hown hgrow hz hg2
  go_wp2
  go_ret
  exact ⟨v', rfl, HW.out, HB.out⟩

end Go.Proofs.YtnfbfdajdflfgaaGreat.Sb

