/- Stacks as plain data: what each doing makes of the words and of the room; nothing of the program. -/
import Derived.Test.YtnfbfdajdflfgaaGreatRows
import Derived.WalkKit
import Derived.WalkSpells
import Derived.WalkLawsBesides
import Derived.Deep.QuietTactic
import Derived.BigQuiet
import Derived.Deep.RegionHeld3
import Derived.Laws.CopyOwn
namespace Go.Proofs.YtnfbfdajdflfgaaGreat
namespace Sk

structure Op where
  kind : Int
  n : Int
  v : Int

/-- What is wrong with a doing, where there are c words. -/
def err (most c : Nat) (o : Op) : Nat :=
  if o.kind = 1 then (if c = most then 4 else 0)
  else if o.kind = 2 then (if o.n < 0 ∨ (c : Int) < o.n then 3 else 0)
  else if o.kind = 3 then (if o.n < 0 ∨ (c : Int) ≤ o.n then 3 else 0)
  else 1

/-- The words behind it. -/
def wds (ws : List Int) (o : Op) : List Int :=
  if o.kind = 1 then ws ++ [o.v]
  else if o.kind = 2 then ws.take (ws.length - o.n.toNat)
  else if o.kind = 3 then ws.set o.n.toNat o.v
  else ws

/-- The room behind it. -/
def rm (mn most r c : Nat) (o : Op) : Nat :=
  if o.kind = 1 then (if c = r then min (2 * r) most else r)
  else if o.kind = 2 then (if c - o.n.toNat ≤ r / 4 ∧ mn < r then max (r / 2) mn else r)
  else r

/-- All doings, from where there are the words ws, the room r, and rs were the rooms so far. -/
def go (mn most : Nat) : List Op → Nat → List Int → Nat → List Nat → List Int × List Nat × Nat × Nat
  | [], _, ws, _, rs => (ws, rs, 0, 0)
  | o :: l, i, ws, r, rs => if err most ws.length o = 0 then go mn most l (i + 1) (wds ws o) (rm mn most r ws.length o) (rs ++ [rm mn most r ws.length o]) else ([], [], err most ws.length o, i)

/-- What always holds of words and room. -/
def Fits (mn most : Nat) (c r : Nat) : Prop := c ≤ r ∧ r ≤ most ∧ mn ≤ r ∧ 1 ≤ mn ∧ most ≤ 400

theorem fits_next {mn most r : Nat} {ws : List Int} {o : Op} (h : Fits mn most ws.length r) (he : err most ws.length o = 0) : Fits mn most (wds ws o).length (rm mn most r ws.length o) := by
  obtain ⟨h1, h2, h3, h4, h5⟩ := h
  unfold err at he
  unfold Fits wds rm
  by_cases k1 : o.kind = 1
  · simp only [if_pos k1] at he ⊢
    by_cases hm : ws.length = most
    · rw [if_pos hm] at he; omega
    · rw [if_neg hm] at he
      have e1 : (ws ++ [o.v]).length = ws.length + 1 := by simp
      rw [e1]
      by_cases hr : ws.length = r
      · rw [if_pos hr]; omega
      · rw [if_neg hr]; omega
  · simp only [if_neg k1] at he ⊢
    by_cases k2 : o.kind = 2
    · simp only [if_pos k2] at he ⊢
      have e1 : (ws.take (ws.length - o.n.toNat)).length = ws.length - o.n.toNat := by simp
      rw [e1]
      by_cases hc : ws.length - o.n.toNat ≤ r / 4 ∧ mn < r
      · rw [if_pos hc]; omega
      · rw [if_neg hc]; omega
    · simp only [if_neg k2] at he ⊢
      by_cases k3 : o.kind = 3
      · simp only [if_pos k3] at he ⊢
        have e1 : (ws.set o.n.toNat o.v).length = ws.length := by simp
        rw [e1]; omega
      · simp only [if_neg k3] at he ⊢; omega

end Sk
end Go.Proofs.YtnfbfdajdflfgaaGreat

/- A stack in memory; the walks of room and move. -/
namespace Go.Proofs.YtnfbfdajdflfgaaGreat.Sb
open Go.RowKit

theorem Tryz.info2 : (Tryz.prog.info? 2).map (fun i => (i.zero, i.size, i.bytes)) = some (some (.int .i64 0), 1, 8) := by kernel_rfl
theorem Tryz.info3 : (Tryz.prog.info? 3).map (fun i => (i.zero, i.size, i.bytes)) = some (some (.int .i64 0), 1, 8) := by kernel_rfl

/-- The stack's own block. -/
abbrev skO (g : Nat) (c r mn most : Nat) : Obj := .cells #[.slice (some ⟨g, 0, none⟩) r r, .int .i64 c, .int .i64 mn, .int .i64 most] 131 (0, 0)

abbrev ints (l : List Int) : List Value := l.map (.int .i64)

/-- r cells in block g, of which the first ones hold ws. -/
def CK (w : World) (g : Nat) (ws : List Int) (r : Nat) : Prop := ∃ cs : List Value, w.heap[g]? = some (.cells cs.toArray 2 (0, 0)) ∧ cs.length = r ∧ cs.take ws.length = ints ws

/-- A stack in block S: its words, its room. -/
def SK (w : World) (S g : Nat) (ws : List Int) (r mn most : Nat) : Prop := w.heap[S]? = some (skO g ws.length r mn most) ∧ CK w g ws r ∧ Sk.Fits mn most ws.length r

theorem SK.cells {w : World} {S g : Nat} {ws : List Int} {r mn most : Nat} (h : SK w S g ws r mn most) :
    w.cell? ⟨S, 0, none⟩ = some (.slice (some ⟨g, 0, none⟩) r r) ∧ w.cell? ⟨S, 1, none⟩ = some (.int .i64 ws.length) ∧ w.cell? ⟨S, 2, none⟩ = some (.int .i64 mn) ∧ w.cell? ⟨S, 3, none⟩ = some (.int .i64 most) := by
  have h := h.1
  simp [World.cell?, h]
theorem SK.free {w : World} {S g : Nat} {ws : List Int} {r mn most : Nat} (h : SK w S g ws r mn most) : w.frozen? ⟨S, 0, none⟩ = false ∧ w.frozen? ⟨S, 1, none⟩ = false := by
  have h := h.1
  simp [World.frozen?, h]
theorem SK.ne {w : World} {S g : Nat} {ws : List Int} {r mn most : Nat} (h : SK w S g ws r mn most) : S ≠ g := by
  rintro rfl
  obtain ⟨cs, hc, _⟩ := h.2.1
  have h1 := h.1
  rw [hc] at h1
  simp at h1

/-- The world has turned in two blocks alone. -/
structure Mv (w w' : World) (S g : Nat) : Prop where
  os : w'.os = w.os
  tape : w'.tape = w.tape
  output : w'.output = w.output
  size : w.heap.size ≤ w'.heap.size
  block : ∀ k, k < w.heap.size → k ≠ S → k ≠ g → w'.heap[k]? = w.heap[k]?

theorem Mv.refl (w : World) (S g : Nat) : Mv w w S g := ⟨rfl, rfl, rfl, Nat.le_refl _, fun _ _ _ _ => rfl⟩
theorem Mv.drew {w w' : World} {S g : Nat} (h : Mv w w' S g) : Mv w w'.drew S g := ⟨h.os, h.tape, h.output, h.size, h.block⟩
theorem Mv.set {w w' : World} {S g : Nat} (h : Mv w w' S g) {a : Addr} (ha : a.block = S ∨ a.block = g ∨ w.heap.size ≤ a.block) (u : Value) : Mv w (w'.setCell a u) S g :=
  ⟨h.os, h.tape, h.output, by simpa [World.setCell] using h.size, fun k hk h1 h2 => (Below.heap_setCell _ _ _ _ (by omega)).trans (h.block k hk h1 h2)⟩
theorem Mv.alloc {w w' : World} {S g : Nat} (h : Mv w w' S g) (o : Obj) : Mv w (w'.alloc o) S g :=
  ⟨h.os, h.tape, h.output, by have := h.size; simp; omega, fun k hk h1 h2 => (Below.heap_alloc _ _ _ (by have := h.size; omega)).trans (h.block k hk h1 h2)⟩
theorem Mv.of_below {w w' : World} (S g : Nat) (h : Below w.heap.size w w') : Mv w w' S g := ⟨h.os, h.tape, h.output, h.size, fun k hk _ _ => h.block k hk⟩

set_option maxHeartbeats 400000 in
theorem room_any (S g : Nat) (ws : List Int) (r mn most : Nat) (w : World) (h : Hid (SK w S g ws r mn most)) :
    Calls Tryz.prog 65 #[.pointer (some ⟨S, 0, none⟩)] w fun e w' => e = .returned (.int .i64 r) ∧ w' = w := by
  obtain ⟨c0, c1, c2, c3⟩ := h.out.cells
  go_enter Tryz.func65, Tryz.ntmps65
  go_wp2
  go_ret
  exact ⟨rfl, rfl⟩

theorem ints_one (ws : List Int) : ∀ v ∈ ints ws, v.oneCell' = true := by
  intro v hv
  obtain ⟨x, _, rfl⟩ := List.mem_map.1 hv
  rfl

theorem CK.cellAt {w : World} {g : Nat} {ws : List Int} {r : Nat} (h : CK w g ws r) : ∀ j v, (ints ws)[j]? = some v → w.cell? ((⟨g, 0, none⟩ : Addr).add j) = some v := by
  obtain ⟨cs, hc, hl, ht⟩ := h
  intro j v hv
  have hadd : (⟨g, 0, none⟩ : Addr).add j = ⟨g, j, none⟩ := by unfold Addr.add; split <;> simp_all
  rw [hadd]
  rw [← ht, List.getElem?_take] at hv
  split at hv
  · simp [World.cell?, hc, hv]
  · simp at hv

theorem sk_set0 {w : World} {S g c r mn most : Nat} (h : w.heap[S]? = some (skO g c r mn most)) (g' q : Nat) : (w.setCell ⟨S, 0, none⟩ (.slice (some ⟨g', 0, none⟩) q q)).heap[S]? = some (skO g' c q mn most) := by
  simp only [World.setCell, Array.getElem?_modify, if_true, h, Option.map_some]
  rfl
theorem sk_set1 {w : World} {S g c c' r mn most : Nat} (h : w.heap[S]? = some (skO g c r mn most)) {v : Int} (hv : v = c') : (w.setCell ⟨S, 1, none⟩ (.int .i64 v)).heap[S]? = some (skO g c' r mn most) := by
  subst hv
  simp only [World.setCell, Array.getElem?_modify, if_true, h, Option.map_some]
  rfl
theorem CK.far {w w' : World} {g : Nat} {ws : List Int} {r : Nat} (e : w'.heap[g]? = w.heap[g]?) (h : CK w g ws r) : CK w' g ws r := by
  obtain ⟨cs, hc, hr⟩ := h
  exact ⟨cs, e.trans hc, hr⟩
theorem ck_splice {w : World} {g q : Nat} {ws : List Int} {cs0 : List Value} (h : w.heap[g]? = some (.cells (splice cs0 0 (ints ws)).toArray 2 (0, 0))) (hl : ws.length ≤ q) (h0 : cs0.length = q) : CK w g ws q := by
  refine ⟨_, h, ?_, ?_⟩
  · rw [length_splice _ _ _ (by simp; omega), h0]
  · simp [splice]

set_option maxHeartbeats 400000 in
theorem move_any (S g : Nat) (ws : List Int) (r q mn most : Nat) (w : World) (h : Hid (SK w S g ws r mn most)) (h1 : ws.length ≤ q) (h2 : q ≤ 400) :
    Calls Tryz.prog 66 #[.pointer (some ⟨S, 0, none⟩), .int .i64 q] w fun e w' => e = .returned (.tuple #[]) ∧ w'.heap[S]? = some (skO w.heap.size ws.length q mn most) ∧ CK w' w.heap.size ws q ∧ Mv w w' S g := by
  obtain ⟨c0, c1, c2, c3⟩ := h.out.cells
  obtain ⟨f0, f1⟩ := h.out.free
  have hS := lt_of_block h.out.1
  have hfit := h.out.2.2
  unfold Sk.Fits at hfit
  obtain ⟨h3, h4, h5, h6, h7⟩ := hfit
  obtain ⟨i0, hi, hz0, hz1, hz2⟩ := info_parts Tryz.info2
  go_enter Tryz.func66, Tryz.ntmps66
  go_wp2_with (at_make; refine wpList_make_full _ rfl _ _ 28 rfl w.heap.size 2 i0 (.int .i64 0) 1 Tryz.underlying28 hi hz0 hz1 _ _ _ _ q rfl rfl rfl rfl (by rw [hz2]; omega) (by unfold maxLen; omega) (Nat.le_refl _) ?_; intro w1 hown hgrow)
  have hb1 : Below w.heap.size w w1 := ⟨hgrow.os, hgrow.tape, hgrow.output, hgrow.size, fun k hk => hgrow.block k hk (by simp)⟩
  obtain ⟨cs0, hcs0, HG⟩ : ∃ cs0 : List Value, cs0.length = q ∧ Hid (w1.heap[w.heap.size]? = some (.cells cs0.toArray 2 (0, 0))) := by
    rcases hown.2 with ⟨hv, _⟩ | ⟨g', cap, cur, hv, _, hh, _, _, hc, _⟩
    · simp at hv
    · simp at hv
      obtain ⟨rfl, rfl⟩ := hv
      refine ⟨cur.toList, by simpa using hc, ?_⟩
      exact hh
  have d0 : w1.cell? ⟨S, 0, none⟩ = some (.slice (some ⟨g, 0, none⟩) r r) := (hb1.cell (p := ⟨S, 0, none⟩) hS).trans c0
  have d1 : w1.cell? ⟨S, 1, none⟩ = some (.int .i64 ws.length) := (hb1.cell (p := ⟨S, 1, none⟩) hS).trans c1
  have HCK : Hid (CK w1 g ws r) := by
    obtain ⟨cs, hc, r1⟩ := h.out.2.1
    exact ⟨cs, (hb1.block g (lt_of_block hc)).trans hc, r1⟩
  have HS1 : Hid (w1.heap[S]? = some (skO g ws.length r mn most)) := (hb1.block S hS).trans h.out.1
  have HB1 : Hid (Below w.heap.size w w1) := hb1
  have n0 : (0 : Int) ≤ (ws.length : Int) := by omega
  have n1 : (ws.length : Int) ≤ (r : Int) := by omega
  have C0 : Hid (w.cell? ⟨S, 0, none⟩ = some (.slice (some ⟨g, 0, none⟩) r r)) := c0
  have C1 : Hid (w.cell? ⟨S, 1, none⟩ = some (.int .i64 ws.length)) := c1
  have F0 : Hid (w.frozen? ⟨S, 0, none⟩ = false) := f0
  clear hown hgrow hb1 c0 c1 c2 c3 f0 f1
  go_region_held3 (fun w' => w'.cell? ⟨S, 0, none⟩ = some (.slice (some ⟨g, 0, none⟩) r r) ∧ w'.cell? ⟨S, 1, none⟩ = some (.int .i64 ws.length)) (go_keep)
    ((refine step_copy_splice rfl (.tmp 7) (.tmp 16) 28 28 rfl 2 Tryz.underlying28 (by rw [hi]; simp [hz1]) _ _ q q ws.length r (by simp [Act.eval]) (by simp [Act.eval]) w.heap.size 0 cs0 2 HG.out (ints ws) (by simp [Nat.min_def]; omega) (fun _ => ⟨rfl, _, rfl, HCK.out.cellAt⟩) (by simp; omega) (ints_one ws) w.heap.size w HB1.out.drew (Nat.le_refl _) ?_; intro w2 hG2 hB2; have d0 : w2.cell? ⟨S, 0, none⟩ = some (.slice (some ⟨g, 0, none⟩) r r) := (hB2.cell (p := ⟨S, 0, none⟩) hS).trans C0.out; have d1 : w2.cell? ⟨S, 1, none⟩ = some (.int .i64 ws.length) := (hB2.cell (p := ⟨S, 1, none⟩) hS).trans C1.out; have f0 : w2.frozen? ⟨S, 0, none⟩ = false := (hB2.frozen (p := ⟨S, 0, none⟩) hS).trans F0.out; have HB2 : Hid (Below w.heap.size w w2) := hB2; clear hB2))
  go_wp2
  go_end0
  refine ⟨rfl, sk_set0 ((HB2.out.block S hS).trans h.out.1) _ _, CK.far ?_ (ck_splice hG2.out (by omega) hcs0), (Mv.of_below S g HB2.out).set (.inl rfl) _⟩
  exact Below.heap_setCell _ _ _ _ (by show w.heap.size ≠ S; omega)
end Go.Proofs.YtnfbfdajdflfgaaGreat.Sb

