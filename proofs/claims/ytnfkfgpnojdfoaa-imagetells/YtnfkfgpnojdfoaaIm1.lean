/- A writer in memory; the walks of throw.Fault, folded, put, number and ints. -/
import Derived.Test.YtnfkfgpnojdfoaaImP
import Derived.WalkSpells
import Derived.WalkLawsBesides
import Derived.Deep.QuietTactic
import Derived.BigQuiet
import Derived.Deep.RegionHeld3
import Derived.Laws.AppendOwnNone
import Derived.Laws.BitsAllLaws
import Derived.Recover
namespace Go.Proofs.Ytnfkfgpnojdfoaa
open Go.RowKit

theorem Try.info5 : (Try.prog.info? 5).map (fun i => (i.zero, i.size, i.bytes)) = some (some (.int .u8 0), 1, 1) := by kernel_rfl

theorem hide {p : Prop} (h : p) : Hid p := h

abbrev bts (l : List Nat) : List Value := l.map (fun (c : Nat) => Value.int .u8 (c : Int))
abbrev fltE (er num : Int) : PanicEntry := { v := .iface 42 (.agg #[.int .i64 er, .int .i64 num]), recovered := false }

/-- Nothing below B has turned, nor anything but bytes and writers. -/
structure Kp (B : Nat) (w w' : World) : Prop where
  below : Below B w w'
  size : w.heap.size ≤ w'.heap.size
  blk : ∀ (k : Nat) (cs : Array Value) (t : TypeId) (fr : Nat × Nat), w.heap[k]? = some (.cells cs t fr) → t ≠ 5 → t ≠ 40 → w'.heap[k]? = some (.cells cs t fr)

theorem Kp.refl (B : Nat) (w : World) : Kp B w w := ⟨Below.refl _ _, Nat.le_refl _, fun _ _ _ _ h _ _ => h⟩
theorem Kp.trans {B : Nat} {a b c : World} (h : Kp B a b) (k : Kp B b c) : Kp B a c :=
  ⟨h.below.trans k.below, Nat.le_trans h.size k.size, fun j cs t fr hj h1 h2 => k.blk j cs t fr (h.blk j cs t fr hj h1 h2) h1 h2⟩
theorem Kp.alloc {B : Nat} {w w' : World} (h : Kp B w w') (hB : B ≤ w'.heap.size) (o : Obj) : Kp B w (w'.alloc o) :=
  ⟨h.below.alloc hB _, by have := h.size; simp; omega, fun j cs t fr hj h1 h2 => (Below.heap_alloc _ _ _ (lt_of_block (h.blk j cs t fr hj h1 h2))).trans (h.blk j cs t fr hj h1 h2)⟩
/-- What is made in a block that was not there. -/
theorem Kp.of_alloc {B : Nat} {w w' : World} {o : Obj} (h : Kp B (w.alloc o) w') (hB : B ≤ w.heap.size) : Kp B w w' := (((Kp.refl B w).alloc hB o).trans h)

/-- A writer in block S. -/
structure WR (w : World) (B S : Nat) (xs : List Nat) : Prop where
  row : ∃ v, w.heap[S]? = some (.cells #[v] 40 (0, 0)) ∧ w.ownsRow B 5 1 v xs.length (bts xs)
  few : xs.length ≤ 59998
  base : B ≤ S

theorem WR.lt {w : World} {B S : Nat} {xs : List Nat} (h : WR w B S xs) : S < w.heap.size := by
  obtain ⟨v, h1, _⟩ := h.row
  exact lt_of_block h1
theorem WR.alloc {w : World} {B S : Nat} {xs : List Nat} (h : WR w B S xs) (o : Obj) : WR (w.alloc o) B S xs := by
  obtain ⟨v, h1, h2⟩ := h.row
  exact ⟨⟨v, (Below.heap_alloc _ _ _ (lt_of_block h1)).trans h1, h2.alloc _⟩, h.few, h.base⟩

/-- What comes of the writing of ys behind xs. -/
structure Wrote (B S : Nat) (xs ys : List Nat) (w : World) (e : Ending) (w' : World) : Prop where
  kp : Kp B w w'
  yes : (xs ++ ys).length ≤ 59998 → e = .returned (.tuple #[]) ∧ WR w' B S (xs ++ ys)
  no : ¬ (xs ++ ys).length ≤ 59998 → e = .panicked [fltE 4 0]

theorem own_ty {w : World} {B e size n k : Nat} {v : Value} {xs : List Value} {cs : Array Value} {t : TypeId} {fr : Nat × Nat} (h : w.ownsRow B e size v n xs) (hk : w.heap[k]? = some (.cells cs t fr)) (ht : t ≠ e) : v.ownBlock ≠ some k := by
  rcases h.2 with ⟨rfl, _⟩ | ⟨g', cap, cur, rfl, _, hh, _⟩
  · simp [Value.ownBlock]
  · intro e1
    simp only [Value.ownBlock, Option.some.injEq] at e1
    subst e1
    rw [hh] at hk
    simp at hk
    exact ht hk.2.1.symm
theorem own_form {w : World} {B e size n : Nat} {v : Value} {xs : List Value} (h : w.ownsRow B e size v n xs) : ∃ a c, v = .slice a n c := by
  rcases h.2 with ⟨rfl, h0⟩ | ⟨g, cp, cur, rfl, _⟩
  · exact ⟨_, _, by rw [h0]⟩
  · exact ⟨_, _, rfl⟩
theorem own_base {w : World} {B C e size n : Nat} {v : Value} {xs : List Value} (h : w.ownsRow C e size v n xs) (hB : B ≤ C) : w.ownsRow B e size v n xs := by
  refine ⟨h.1, ?_⟩
  rcases h.2 with h2 | ⟨g, cap, cur, hv, hg, r⟩
  · exact .inl h2
  · exact .inr ⟨g, cap, cur, hv, Nat.le_trans hB hg, r⟩
theorem own_keep {w w' : World} {B e size n : Nat} {v : Value} {xs : List Value} (h : w.ownsRow B e size v n xs) (hk : ∀ k, v.ownBlock = some k → w'.heap[k]? = w.heap[k]?) : w'.ownsRow B e size v n xs := by
  refine ⟨h.1, ?_⟩
  rcases h.2 with h2 | ⟨g', cap, cur, rfl, hB, hh, hr⟩
  · exact .inl h2
  · exact .inr ⟨g', cap, cur, rfl, hB, (hk g' rfl).trans hh, hr⟩
theorem one_news (W : World) (u : Value) (t : TypeId) : ∀ j u', [u][j]? = some u' → (W.alloc (.cells #[u] t)).cell? ((⟨W.heap.size, 0, none⟩ : Addr).add j) = some u'
  | 0, u', h => by simp at h; subst h; simp [Addr.add]
  | j + 1, u', h => by simp at h
theorem one_cellu (x : Int) : ∀ u ∈ [Value.int .u8 x], u.oneCell' = true := by intro u hu; simp at hu; subst hu; rfl

set_option maxHeartbeats 400000 in
theorem throw_any (num er : Int) (w : World) :
    Calls Try.prog 37 #[.int .i64 er, .int .i64 num] w fun e w' => e = .panicked [fltE er num] ∧ w' = w := by
  go_enter Try.func37, Try.ntmps37
  go_wp2
  exact ⟨rfl, rfl, rfl⟩

theorem put_end {w w2 : World} {B S : Nat} {xs : List Nat} {c : Nat} {v v' : Value} {o : Obj} (hS : w.heap[S]? = some (.cells #[v] 40 (0, 0))) (hown : w.ownsRow B 5 1 v xs.length (bts xs)) (hB : B ≤ S) (hf : xs.length < 59998)
    (h2 : w2.ownsRow B 5 1 v' (xs.length + 1) (bts xs ++ [.int .u8 c])) (hg : (w.alloc o).grownBy w2 v.ownBlock) : WR (w2.setCell ⟨S, 0, none⟩ v') B S (xs ++ [c]) ∧ Kp B w (w2.setCell ⟨S, 0, none⟩ v') := by
  have hlt := lt_of_block hS
  have hz := hg.size
  simp at hz
  have blk : ∀ k, k < w.heap.size → v.ownBlock ≠ some k → w2.heap[k]? = w.heap[k]? := fun k hk h1 => (hg.block k (by simp; omega) (fun e => h1 e.symm)).trans (Below.heap_alloc _ _ _ hk)
  have hS2 : w2.heap[S]? = some (.cells #[v] 40 (0, 0)) := (blk S hlt (own_ty hown hS (by decide))).trans hS
  refine ⟨⟨⟨v', ?_, own_keep (by simpa using h2) (fun k hk => Below.heap_setCell _ _ _ _ (fun e => ?_))⟩, by simp; omega, hB⟩, ⟨⟨hg.os, hg.tape, hg.output, ?_, fun k hk => ?_⟩, ?_, fun k cs t fr hk h3 h4 => ?_⟩⟩
  · simp only [World.setCell, Array.getElem?_modify, if_true, hS2, Option.map_some]
    rfl
  · subst e
    exact own_ty h2 hS2 (by decide) hk
  · simp [World.setCell]; omega
  · rw [Below.heap_setCell _ ⟨S, 0, none⟩ _ _ (by show k ≠ S; omega)]
    exact blk k (by omega) (fun e => by have := (hown.lt k e).1; omega)
  · simp [World.setCell]; omega
  · have hne : k ≠ S := fun e => by
      subst e
      rw [hS] at hk
      simp at hk
      exact h4 hk.2.1.symm
    rw [Below.heap_setCell _ ⟨S, 0, none⟩ _ _ hne, blk k (lt_of_block hk) (own_ty hown hk h3)]
    exact hk

theorem wr_cell {w : World} {S : Nat} {v : Value} (h : w.heap[S]? = some (.cells #[v] 40 (0, 0))) : w.cell? ⟨S, 0, none⟩ = some v ∧ w.frozen? ⟨S, 0, none⟩ = false := by
  simp [World.cell?, World.frozen?, h]

set_option maxHeartbeats 400000 in
theorem put_any (B S c : Nat) (xs : List Nat) (w : World) (h : Hid (WR w B S xs)) :
    Calls Try.prog 39 #[.pointer (some ⟨S, 0, none⟩), .int .u8 c] w fun e w' => Wrote B S xs [c] w e w' := by
  obtain ⟨i0, hi, hz0, hz1, hz2⟩ := info_parts Try.info5
  obtain ⟨v, hS, hown⟩ := h.out.row
  obtain ⟨c0, f0⟩ := wr_cell hS
  have hfew := h.out.few
  have hB := h.out.base
  have HS := hide hS
  have HO := hide hown
  have hlt := lt_of_block hS
  obtain ⟨av, cv, rfl⟩ := own_form hown
  clear hS hown
  by_cases hf : xs.length = 59998
  · have e1 : ((xs.length : Int) == 59998) = true := by simp; omega
    go_enter Try.func39, Try.ntmps39
    go_wp2_with fail
    refine (throw_any 0 4 _).mono ?_
    rintro e w1 ⟨rfl, rfl⟩
    go_wp2
    exact ⟨rfl, Kp.refl _ _, fun h1 => by simp at h1; omega, fun _ => rfl⟩
  · have e1 : ((xs.length : Int) == 59998) = false := by simp; omega
    go_enter Try.func39, Try.ntmps39
    go_wp2_with (at_builtin; refine wpList_append_own _ rfl _ _ 26 rfl B 5 i0 (.int .u8 0) 1 1 Try.underlying26 hi hz0 hz1 hz2 rfl (by decide) _ _ _ rfl (HO.out.alloc _) ⟨w.heap.size, 0, none⟩ 1 1 [.int .u8 c] rfl rfl (one_news _ _ _) (one_cellu _) (by unfold maxLen; omega) (by omega) (by simp; omega) ?_; intro v' w2 hown' hgrow _; obtain ⟨a2, c2, hv2⟩ := own_form hown'; subst hv2; have HE := hide (put_end HS.out HO.out hB (by omega) hown' hgrow); have hz2 := hgrow.size; have b0 : w2.frozen? ⟨S, 0, none⟩ = false := (by have := (hgrow.block S (by simp; omega) (fun e => own_ty HO.out HS.out (by decide) e.symm)).trans ((Below.heap_alloc _ _ _ hlt).trans HS.out); simp [World.frozen?, this]); have b1 : w2.cell? ⟨S, 0, none⟩ = some (.slice av xs.length cv) := (by have := (hgrow.block S (by simp; omega) (fun e => own_ty HO.out HS.out (by decide) e.symm)).trans ((Below.heap_alloc _ _ _ hlt).trans HS.out); simp [World.cell?, this]); clear hown' hgrow)
    go_wp2
    go_end0
    exact ⟨HE.out.2, fun _ => ⟨rfl, HE.out.1⟩, fun h1 => absurd (by simp; omega) h1⟩

end Go.Proofs.Ytnfkfgpnojdfoaa
