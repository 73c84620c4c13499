/- A box in memory; the walks of cell, put and take. -/
import Derived.Test.YtbpebecfnbdckaaMlP
import Derived.WalkKit
import Derived.WalkSpells
import Derived.WalkLawsBesides
import Derived.Deep.QuietTactic
import Derived.BigQuiet
import Derived.Deep.RegionHeld3
import Derived.Laws.AppendOwnNone
namespace Go.Proofs.Ytbpebecfnbdckaa.Mb
open Go.RowKit

theorem Try.info2 : (Try.prog.info? 2).map (fun i => (i.zero, i.size, i.bytes)) = some (some (.int .i64 0), 1, 8) := by kernel_rfl
theorem Try.info30 : (Try.prog.info? 30).map (fun i => (i.zero, i.size, i.bytes)) = some (some (.agg #[.bool false, .int .i64 0]), 2, 16) := by kernel_rfl

theorem hide {p : Prop} (h : p) : Hid p := h

/-- The box's own block. -/
abbrev bxO (g n f c : Nat) : Obj := .cells #[.slice (some ⟨g, 0, none⟩) n n, .int .i64 f, .int .i64 c] 42 (0, 0)

abbrev ints (l : List Int) : List Value := l.map (.int .i64)

/-- A ring of n cells in block g: the words lie from f on, and round. -/
def RK (w : World) (g : Nat) (ws : List Int) (f n : Nat) : Prop := ∃ cs : List Value, w.heap[g]? = some (.cells cs.toArray 2 (0, 0)) ∧ cs.length = n ∧ ∀ i x, ws[i]? = some x → cs[(f + i) % n]? = some (.int .i64 x)

/-- A box in block S. -/
structure BX (w : World) (S g : Nat) (ws : List Int) (f n : Nat) : Prop where
  blk : w.heap[S]? = some (bxO g n f ws.length)
  row : RK w g ws f n
  few : ws.length ≤ n
  at' : f < n
  most : n ≤ 20

theorem BX.cells {w : World} {S g : Nat} {ws : List Int} {f n : Nat} (h : BX w S g ws f n) :
    w.cell? ⟨S, 0, none⟩ = some (.slice (some ⟨g, 0, none⟩) n n) ∧ w.cell? ⟨S, 1, none⟩ = some (.int .i64 f) ∧ w.cell? ⟨S, 2, none⟩ = some (.int .i64 ws.length) := by
  have h := h.blk
  simp [World.cell?, h]
theorem BX.free {w : World} {S g : Nat} {ws : List Int} {f n : Nat} (h : BX w S g ws f n) : w.frozen? ⟨S, 1, none⟩ = false ∧ w.frozen? ⟨S, 2, none⟩ = false := by
  have h := h.blk
  simp [World.frozen?, h]
theorem BX.ne {w : World} {S g : Nat} {ws : List Int} {f n : Nat} (h : BX w S g ws f n) : S ≠ g := by
  rintro rfl
  obtain ⟨cs, hc, _⟩ := h.row
  have h1 := h.blk
  rw [hc] at h1
  simp at h1
theorem BX.drewN {w : World} {S g : Nat} {ws : List Int} {f n : Nat} (h : BX w S g ws f n) (d : Nat) : BX (w.drewN d) S g ws f n := ⟨h.blk, h.row, h.few, h.at', h.most⟩
theorem BX.drew {w : World} {S g : Nat} {ws : List Int} {f n : Nat} (h : BX w S g ws f n) : BX w.drew S g ws f n := ⟨h.blk, h.row, h.few, h.at', h.most⟩
theorem RK.far {w w' : World} {g : Nat} {ws : List Int} {f n : Nat} (e : w'.heap[g]? = w.heap[g]?) (h : RK w g ws f n) : RK w' g ws f n := by
  obtain ⟨cs, hc, hr⟩ := h
  exact ⟨cs, e.trans hc, hr⟩
theorem BX.alloc {w : World} {S g : Nat} {ws : List Int} {f n : Nat} (h : BX w S g ws f n) (o : Obj) : BX (w.alloc o) S g ws f n := by
  obtain ⟨cs, hc, hr⟩ := h.row
  exact ⟨(Below.heap_alloc _ _ _ (lt_of_block h.blk)).trans h.blk, ⟨cs, (Below.heap_alloc _ _ _ (lt_of_block hc)).trans hc, hr⟩, h.few, h.at', h.most⟩

/-- A cell of the ring. -/
theorem RK.at {w : World} {g : Nat} {ws : List Int} {f n : Nat} (h : RK w g ws f n) (j : Nat) (hj : j < n) : ∃ v, w.cell? ⟨g, j, none⟩ = some v ∧ w.frozen? ⟨g, j, none⟩ = false := by
  obtain ⟨cs, hc, hl, _⟩ := h
  obtain ⟨v, hv⟩ : ∃ v, cs[j]? = some v := ⟨_, List.getElem?_eq_getElem (by omega)⟩
  exact ⟨v, by simp [World.cell?, hc, hv], by simp [World.frozen?, hc]⟩
theorem RK.word {w : World} {g : Nat} {ws : List Int} {f n : Nat} (h : RK w g ws f n) {i : Nat} {x : Int} (hx : ws[i]? = some x) : w.cell? ⟨g, (f + i) % n, none⟩ = some (.int .i64 x) := by
  obtain ⟨cs, hc, _, hl⟩ := h
  simp [World.cell?, hc, hl i x hx]

theorem set_row {w : World} {g : Nat} {cs : List Value} {t : TypeId} (h : w.heap[g]? = some (.cells cs.toArray t (0, 0))) (j : Nat) (v : Value) : (w.setCell ⟨g, j, none⟩ v).heap[g]? = some (.cells (cs.set j v).toArray t (0, 0)) := by
  simp only [World.setCell, Array.getElem?_modify, if_true, h, Option.map_some, List.setIfInBounds_toArray]
  rfl

theorem mod_ne {f i c n : Nat} (hf : f < n) (hi : i < c) (hc : c < n) : (f + i) % n ≠ (f + c) % n := by
  by_cases h1 : f + i < n
  · rw [Nat.mod_eq_of_lt h1]
    by_cases h2 : f + c < n
    · rw [Nat.mod_eq_of_lt h2]; omega
    · rw [Nat.mod_eq_sub_mod (by omega), Nat.mod_eq_of_lt (by omega)]; omega
  · rw [Nat.mod_eq_sub_mod (by omega), Nat.mod_eq_of_lt (by omega)]
    rw [Nat.mod_eq_sub_mod (by omega), Nat.mod_eq_of_lt (by omega)]; omega

theorem RK.put {w : World} {g : Nat} {ws : List Int} {f n : Nat} (h : RK w g ws f n) (hf : f < n) (hc : ws.length < n) (v : Int) : RK (w.setCell ⟨g, (f + ws.length) % n, none⟩ (.int .i64 v)) g (ws ++ [v]) f n := by
  obtain ⟨cs, hc1, hl, ht⟩ := h
  refine ⟨_, set_row hc1 _ _, by simpa using hl, fun i x hx => ?_⟩
  by_cases hi : i < ws.length
  · rw [List.getElem?_append_left hi] at hx
    rw [List.getElem?_set_ne (fun e => mod_ne hf hi hc e.symm)]
    exact ht i x hx
  · have hi2 : i = ws.length := by
      have := (List.getElem?_eq_some_iff.1 hx).1
      simp at this
      omega
    subst hi2
    simp at hx
    subst hx
    rw [List.getElem?_set_self (by rw [hl]; exact Nat.mod_lt _ (by omega))]
theorem RK.take {w : World} {g : Nat} {ws : List Int} {f n : Nat} (h : RK w g ws f n) : RK w g ws.tail ((f + 1) % n) n := by
  obtain ⟨cs, hc, hl, ht⟩ := h
  refine ⟨cs, hc, hl, fun i x hx => ?_⟩
  have := ht (i + 1) x (by simpa using hx)
  rw [Nat.mod_add_mod, show f + 1 + i = f + (i + 1) by omega]
  exact this

/-- The world has turned in two blocks alone. -/
structure Mv (w w' : World) (S g : Nat) : Prop where
  os : w'.os = w.os
  tape : w'.tape = w.tape
  output : w'.output = w.output
  size : w.heap.size ≤ w'.heap.size
  block : ∀ k, k < w.heap.size → k ≠ S → k ≠ g → w'.heap[k]? = w.heap[k]?

theorem Mv.refl (w : World) (S g : Nat) : Mv w w S g := ⟨rfl, rfl, rfl, Nat.le_refl _, fun _ _ _ _ => rfl⟩
theorem Mv.drew {w w' : World} {S g : Nat} (h : Mv w w' S g) : Mv w w'.drew S g := ⟨h.os, h.tape, h.output, h.size, h.block⟩
theorem Mv.drewN {w w' : World} {S g : Nat} (h : Mv w w' S g) (n : Nat) : Mv w (w'.drewN n) S g := ⟨h.os, h.tape, h.output, h.size, h.block⟩
theorem Mv.set {w w' : World} {S g : Nat} (h : Mv w w' S g) {a : Addr} (ha : a.block = S ∨ a.block = g ∨ w.heap.size ≤ a.block) (u : Value) : Mv w (w'.setCell a u) S g :=
  ⟨h.os, h.tape, h.output, by simpa [World.setCell] using h.size, fun k hk h1 h2 => (Below.heap_setCell _ _ _ _ (by omega)).trans (h.block k hk h1 h2)⟩
theorem Mv.alloc {w w' : World} {S g : Nat} (h : Mv w w' S g) (o : Obj) : Mv w (w'.alloc o) S g :=
  ⟨h.os, h.tape, h.output, by have := h.size; simp; omega, fun k hk h1 h2 => (Below.heap_alloc _ _ _ (by have := h.size; omega)).trans (h.block k hk h1 h2)⟩

theorem bx_set1 {w : World} {S g n f c f' : Nat} (h : w.heap[S]? = some (bxO g n f c)) {v : Int} (hv : v = f') : (w.setCell ⟨S, 1, none⟩ (.int .i64 v)).heap[S]? = some (bxO g n f' c) := by
  subst hv
  simp only [World.setCell, Array.getElem?_modify, if_true, h, Option.map_some]
  rfl
theorem bx_set2 {w : World} {S g n f c c' : Nat} (h : w.heap[S]? = some (bxO g n f c)) {v : Int} (hv : v = c') : (w.setCell ⟨S, 2, none⟩ (.int .i64 v)).heap[S]? = some (bxO g n f c') := by
  subst hv
  simp only [World.setCell, Array.getElem?_modify, if_true, h, Option.map_some]
  rfl

set_option maxHeartbeats 400000 in
theorem cell_any (S g : Nat) (ws : List Int) (f n i : Nat) (w : World) (h : Hid (BX w S g ws f n)) (hi : i ≤ 20) (r : Nat) (hr : Hid (r = (f + i) % n)) :
    Calls Try.prog 17 #[.pointer (some ⟨S, 0, none⟩), .int .i64 i] w fun e w' => e = .returned (.int .i64 r) ∧ ∃ d, w' = w.drewN d := by
  obtain ⟨c0, c1, c2⟩ := h.out.cells
  have h1 := h.out.at'
  have h2 := h.out.most
  go_enter Try.func17, Try.ntmps17
  go_wp2
  go_quiet (fail)
  go_wp2
  go_ret
  exact ⟨by rw [hr.out]; rfl, _, rfl⟩

set_option maxHeartbeats 400000 in
theorem full_any (S g : Nat) (ws : List Int) (f n : Nat) (w : World) (h : Hid (BX w S g ws f n)) (b : Bool) (hb : Hid (b = decide (ws.length = n))) :
    Calls Try.prog 13 #[.pointer (some ⟨S, 0, none⟩)] w fun e w' => e = .returned (.bool b) ∧ ∃ d, w' = w.drewN d := by
  obtain ⟨c0, c1, c2⟩ := h.out.cells
  have e1 : ((ws.length : Int) == (n : Int)) = b := by rw [hb.out, Bool.eq_iff_iff]; simp; omega
  go_enter Try.func13, Try.ntmps13
  go_wp2
  go_quiet (fail)
  go_wp2
  go_ret
  exact ⟨rfl, _, rfl⟩

set_option maxHeartbeats 400000 in
theorem empty_any (S g : Nat) (ws : List Int) (f n : Nat) (w : World) (h : Hid (BX w S g ws f n)) (b : Bool) (hb : Hid (b = decide (ws.length = 0))) :
    Calls Try.prog 15 #[.pointer (some ⟨S, 0, none⟩)] w fun e w' => e = .returned (.bool b) ∧ w' = w := by
  obtain ⟨c0, c1, c2⟩ := h.out.cells
  have e1 : ((ws.length : Int) == 0) = b := by rw [hb.out, Bool.eq_iff_iff]; simp
  go_enter Try.func15, Try.ntmps15
  go_wp2
  go_ret
  exact ⟨rfl, rfl⟩

set_option maxHeartbeats 400000 in
theorem put_full (S g : Nat) (ws : List Int) (f n : Nat) (v : Int) (w : World) (h : Hid (BX w S g ws f n)) (hf : Hid (ws.length = n)) :
    Calls Try.prog 14 #[.pointer (some ⟨S, 0, none⟩), .int .i64 v] w fun e w' => e = .returned (.tuple #[]) ∧ BX w' S g ws f n ∧ Mv w w' S g := by
  go_enter Try.func14, Try.ntmps14
  go_wp2_with fail
  refine (full_any S g ws f n _ h true (hide (by have := hf.out; simp [this]))).mono ?_
  rintro e w' ⟨rfl, d, rfl⟩
  go_wp2
  exact bodyPost_ret (v := .tuple #[]) (by simp [results, Try.results14, go_sem]) rfl ⟨rfl, h.out.drewN _, (Mv.refl _ _ _).drewN _⟩

set_option maxHeartbeats 400000 in
theorem put_room (S g : Nat) (ws : List Int) (f n : Nat) (v : Int) (w : World) (h : Hid (BX w S g ws f n)) (hf : ws.length < n) :
    Calls Try.prog 14 #[.pointer (some ⟨S, 0, none⟩), .int .i64 v] w fun e w' => e = .returned (.tuple #[]) ∧ BX w' S g (ws ++ [v]) f n ∧ Mv w w' S g := by
  obtain ⟨c0, c1, c2⟩ := h.out.cells
  obtain ⟨f1, f2⟩ := h.out.free
  have hne : ¬ g = S := fun e => h.out.ne e.symm
  have h1 := h.out.at'
  have h2 := h.out.most
  obtain ⟨r, hr⟩ : ∃ r, r = (f + ws.length) % n := ⟨_, rfl⟩
  have hrn : r < n := by rw [hr]; exact Nat.mod_lt _ (by omega)
  obtain ⟨u, cu, fu⟩ := h.out.row.at r hrn
  have HR := hide hr
  clear hr
  have n0 : (0 : Int) ≤ (r : Int) := by omega
  have n1 : (r : Int) < (n : Int) := by omega
  go_enter Try.func14, Try.ntmps14
  go_wp2_with fail
  refine (full_any S g ws f n _ h false (hide (by simp; omega))).mono ?_
  rintro e w' ⟨rfl, d, rfl⟩
  go_wp2
  go_region_held3 (fun w' => w'.cell? ⟨S, 0, none⟩ = some (.slice (some ⟨g, 0, none⟩) n n) ∧ w'.cell? ⟨S, 2, none⟩ = some (.int .i64 ws.length)) (go_keep) ((go_at_call 17; refine (cell_any S g ws f n ws.length _ (hide (h.out.drewN _)) (by omega) r HR).mono ?_; rintro e w' ⟨rfl, d, rfl⟩))
  go_wp2
  go_end0
  refine ⟨rfl, ⟨?_, ?_, by simp; omega, h1, h2⟩, (((Mv.refl w S g).set (.inr (.inl rfl)) _).set (.inl rfl) _).drewN _⟩
  · rw [List.length_append]; exact bx_set2 ((Below.heap_setCell _ _ _ _ (fun e => hne e.symm)).trans h.out.blk) (by go_num)
  · have hp := h.out.row.put h1 hf v
    rw [← HR.out] at hp
    exact RK.far (Below.heap_setCell _ ⟨S, 2, none⟩ _ _ hne) hp

set_option maxHeartbeats 400000 in
theorem take_none (S g : Nat) (ws : List Int) (f n : Nat) (w : World) (h : Hid (BX w S g ws f n)) (hf : Hid (ws = [])) :
    Calls Try.prog 16 #[.pointer (some ⟨S, 0, none⟩)] w fun e w' => e = .returned (.int .i64 0) ∧ w' = w := by
  go_enter Try.func16, Try.ntmps16
  go_wp2_with fail
  refine (empty_any S g ws f n _ h true (hide (by have := hf.out; simp [this]))).mono ?_
  rintro e w' ⟨rfl, rfl⟩
  go_wp2
  go_ret
  exact ⟨rfl, rfl⟩

set_option maxHeartbeats 400000 in
theorem take_some (S g : Nat) (ws : List Int) (x : Int) (f n : Nat) (w : World) (h : Hid (BX w S g ws f n)) (hx : Hid (ws[0]? = some x)) :
    Calls Try.prog 16 #[.pointer (some ⟨S, 0, none⟩)] w fun e w' => e = .returned (.int .i64 x) ∧ BX w' S g ws.tail ((f + 1) % n) n ∧ Mv w w' S g := by
  obtain ⟨c0, c1, c2⟩ := h.out.cells
  obtain ⟨f1, f2⟩ := h.out.free
  have hne : ¬ g = S := fun e => h.out.ne e.symm
  have h1 := h.out.at'
  have h2 := h.out.most
  have hl : 0 < ws.length := (List.getElem?_eq_some_iff.1 hx.out).1
  obtain ⟨r, hr⟩ : ∃ r, r = (f + 1) % n := ⟨_, rfl⟩
  have hrn : r < n := by rw [hr]; exact Nat.mod_lt _ (by omega)
  have cx := h.out.row.word hx.out
  rw [Nat.add_zero, Nat.mod_eq_of_lt h1] at cx
  have HR := hide hr
  clear hr
  have n0 : (0 : Int) ≤ (f : Int) := by omega
  have n1 : (f : Int) < (n : Int) := by omega
  have hln := h.out.few
  go_enter Try.func16, Try.ntmps16
  go_wp2_with fail
  refine (empty_any S g ws f n _ h false (hide (by simp; intro e; rw [e] at hl; simp at hl))).mono ?_
  rintro e w' ⟨rfl, rfl⟩
  go_wp2
  go_quiet (fail)
  go_wp2_with fail
  refine (cell_any S g ws f n 1 _ (hide (h.out.drewN _)) (by omega) r HR).mono ?_
  rintro e w' ⟨rfl, d, rfl⟩
  go_wp2
  go_ret
  refine ⟨rfl, ⟨?_, ?_, by simp; omega, Nat.mod_lt _ (by omega), h2⟩, (((Mv.refl _ S g).set (.inl rfl) _).set (.inl rfl) _).drewN _⟩
  · rw [List.length_tail]; exact bx_set2 (bx_set1 h.out.blk (by rw [HR.out])) (by go_num)
  · exact RK.far ((Below.heap_setCell _ ⟨S, 2, none⟩ _ _ hne).trans (Below.heap_setCell _ ⟨S, 1, none⟩ _ _ hne)) h.out.row.take

end Go.Proofs.Ytbpebecfnbdckaa.Mb
