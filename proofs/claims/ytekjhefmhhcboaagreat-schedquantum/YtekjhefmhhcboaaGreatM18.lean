/- A box in memory; the walks of cell, put and take. -/
import Derived.Test.YtekjhefmhhcboaaGreatChecked
import Derived.WalkKit
import Derived.WalkSpells
import Derived.WalkLawsBesides
import Derived.Deep.QuietTactic
import Derived.BigQuiet
import Derived.Deep.RegionHeld3
import Derived.Laws.AppendOwnNone
namespace Go.Proofs.YtekjhefmhhcboaaGreat.Mb
open Go.RowKit

theorem Tryz.info2 : (Tryz.prog.info? 2).map (fun i => (i.zero, i.size, i.bytes)) = some (some (.int .i64 0), 1, 8) := by kernel_rfl

theorem hide {p : Prop} (h : p) : Hid p := h

/-- The box's own block. -/
abbrev bxO (g n f c : Nat) : Obj := .cells #[.slice (some ⟨g, 0, none⟩) n n, .int .i64 f, .int .i64 c] 91 (0, 0)

abbrev ints (l : List Int) : List Value := l.map (.int .i64)

/-- A ring of n cells in block g: the words lie from f on, and round. -/
def RK (w : World) (g : Nat) (ws : List Int) (f n : Nat) : Prop := ∃ cs : List Value, w.heap[g]? = some (.cells cs.toArray 2 (0, 0)) ∧ cs.length = n ∧ ∀ i x, ws[i]? = some x → cs[(f + i) % n]? = some (.int .i64 x)

/-- A box in block S. -/
structure BX (w : World) (S g : Nat) (ws : List Int) (f n : Nat) : Prop where
  blk : w.heap[S]? = some (bxO g n f ws.length)
  row : RK w g ws f n
  few : ws.length ≤ n
  at' : f < n
  most : n ≤ 20

theorem BX.cells {w : World} {S g : Nat} {ws : List Int} {f n : Nat} (h : BX w S g ws f n) :
    w.cell? ⟨S, 0, none⟩ = some (.slice (some ⟨g, 0, none⟩) n n) ∧ w.cell? ⟨S, 1, none⟩ = some (.int .i64 f) ∧ w.cell? ⟨S, 2, none⟩ = some (.int .i64 ws.length) := by
  have h := h.blk
  simp [World.cell?, h]
theorem BX.free {w : World} {S g : Nat} {ws : List Int} {f n : Nat} (h : BX w S g ws f n) : w.frozen? ⟨S, 1, none⟩ = false ∧ w.frozen? ⟨S, 2, none⟩ = false := by
  have h := h.blk
  simp [World.frozen?, h]
theorem BX.ne {w : World} {S g : Nat} {ws : List Int} {f n : Nat} (h : BX w S g ws f n) : S ≠ g := by
  rintro rfl
  obtain ⟨cs, hc, _⟩ := h.row
  have h1 := h.blk
  rw [hc] at h1
  simp at h1
theorem BX.drewN {w : World} {S g : Nat} {ws : List Int} {f n : Nat} (h : BX w S g ws f n) (d : Nat) : BX (w.drewN d) S g ws f n := ⟨h.blk, h.row, h.few, h.at', h.most⟩
theorem BX.drew {w : World} {S g : Nat} {ws : List Int} {f n : Nat} (h : BX w S g ws f n) : BX w.drew S g ws f n := ⟨h.blk, h.row, h.few, h.at', h.most⟩
theorem RK.far {w w' : World} {g : Nat} {ws : List Int} {f n : Nat} (e : w'.heap[g]? = w.heap[g]?) (h : RK w g ws f n) : RK w' g ws f n := by
  obtain ⟨cs, hc, hr⟩ := h
  exact ⟨cs, e.trans hc, hr⟩
theorem BX.alloc {w : World} {S g : Nat} {ws : List Int} {f n : Nat} (h : BX w S g ws f n) (o : Obj) : BX (w.alloc o) S g ws f n := by
  obtain ⟨cs, hc, hr⟩ := h.row
  exact ⟨(Below.heap_alloc _ _ _ (lt_of_block h.blk)).trans h.blk, ⟨cs, (Below.heap_alloc _ _ _ (lt_of_block hc)).trans hc, hr⟩, h.few, h.at', h.most⟩

/-- A cell of the ring. -/
theorem RK.at {w : World} {g : Nat} {ws : List Int} {f n : Nat} (h : RK w g ws f n) (j : Nat) (hj : j < n) : ∃ v, w.cell? ⟨g, j, none⟩ = some v ∧ w.frozen? ⟨g, j, none⟩ = false := by
  obtain ⟨cs, hc, hl, _⟩ := h
  obtain ⟨v, hv⟩ : ∃ v, cs[j]? = some v := ⟨_, List.getElem?_eq_getElem (by omega)⟩
  exact ⟨v, by simp [World.cell?, hc, hv], by simp [World.frozen?, hc]⟩
theorem RK.word {w : World} {g : Nat} {ws : List Int} {f n : Nat} (h : RK w g ws f n) {i : Nat} {x : Int} (hx : ws[i]? = some x) : w.cell? ⟨g, (f + i) % n, none⟩ = some (.int .i64 x) := by
  obtain ⟨cs, hc, _, hl⟩ := h
  simp [World.cell?, hc, hl i x hx]

theorem set_row {w : World} {g : Nat} {cs : List Value} {t : TypeId} (h : w.heap[g]? = some (.cells cs.toArray t (0, 0))) (j : Nat) (v : Value) : (w.setCell ⟨g, j, none⟩ v).heap[g]? = some (.cells (cs.set j v).toArray t (0, 0)) := by
  simp only [World.setCell, Array.getElem?_modify, if_true, h, Option.map_some, List.setIfInBounds_toArray]
  rfl

theorem mod_ne {f i c n : Nat} (hf : f < n) (hi : i < c) (hc : c < n) : (f + i) % n ≠ (f + c) % n := by
  by_cases h1 : f + i < n
  · rw [Nat.mod_eq_of_lt h1]
    by_cases h2 : f + c < n
    · rw [Nat.mod_eq_of_lt h2]; omega
    · rw [Nat.mod_eq_sub_mod (by omega), Nat.mod_eq_of_lt (by omega)]; omega
  · rw [Nat.mod_eq_sub_mod (by omega), Nat.mod_eq_of_lt (by omega)]
    rw [Nat.mod_eq_sub_mod (by omega), Nat.mod_eq_of_lt (by omega)]; omega

theorem RK.put {w : World} {g : Nat} {ws : List Int} {f n : Nat} (h : RK w g ws f n) (hf : f < n) (hc : ws.length < n) (v : Int) : RK (w.setCell ⟨g, (f + ws.length) % n, none⟩ (.int .i64 v)) g (ws ++ [v]) f n := by
  obtain ⟨cs, hc1, hl, ht⟩ := h
  refine ⟨_, set_row hc1 _ _, by simpa using hl, fun i x hx => ?_⟩
  by_cases hi : i < ws.length
  · rw [List.getElem?_append_left hi] at hx
    rw [List.getElem?_set_ne (fun e => mod_ne hf hi hc e.symm)]
    exact ht i x hx
  · have hi2 : i = ws.length := by
      have := (List.getElem?_eq_some_iff.1 hx).1
      simp at this
      omega
    subst hi2
    simp at hx
    subst hx
    rw [List.getElem?_set_self (by rw [hl]; exact Nat.mod_lt _ (by omega))]
theorem RK.take {w : World} {g : Nat} {ws : List Int} {f n : Nat} (h : RK w g ws f n) : RK w g ws.tail ((f + 1) % n) n := by
  obtain ⟨cs, hc, hl, ht⟩ := h
  refine ⟨cs, hc, hl, fun i x hx => ?_⟩
  have := ht (i + 1) x (by simpa using hx)
  rw [Nat.mod_add_mod, show f + 1 + i = f + (i + 1) by omega]
  exact this

/-- The world has turned in two blocks alone. -/
structure Mv (w w' : World) (S g : Nat) : Prop where
  os : w'.os = w.os
  tape : w'.tape = w.tape
  output : w'.output = w.output
  size : w.heap.size ≤ w'.heap.size
  block : ∀ k, k < w.heap.size → k ≠ S → k ≠ g → w'.heap[k]? = w.heap[k]?

theorem Mv.refl (w : World) (S g : Nat) : Mv w w S g := ⟨rfl, rfl, rfl, Nat.le_refl _, fun _ _ _ _ => rfl⟩
theorem Mv.drew {w w' : World} {S g : Nat} (h : Mv w w' S g) : Mv w w'.drew S g := ⟨h.os, h.tape, h.output, h.size, h.block⟩
theorem Mv.drewN {w w' : World} {S g : Nat} (h : Mv w w' S g) (n : Nat) : Mv w (w'.drewN n) S g := ⟨h.os, h.tape, h.output, h.size, h.block⟩
theorem Mv.set {w w' : World} {S g : Nat} (h : Mv w w' S g) {a : Addr} (ha : a.block = S ∨ a.block = g ∨ w.heap.size ≤ a.block) (u : Value) : Mv w (w'.setCell a u) S g :=
  ⟨h.os, h.tape, h.output, by simpa [World.setCell] using h.size, fun k hk h1 h2 => (Below.heap_setCell _ _ _ _ (by omega)).trans (h.block k hk h1 h2)⟩
theorem Mv.alloc {w w' : World} {S g : Nat} (h : Mv w w' S g) (o : Obj) : Mv w (w'.alloc o) S g :=
  ⟨h.os, h.tape, h.output, by have := h.size; simp; omega, fun k hk h1 h2 => (Below.heap_alloc _ _ _ (by have := h.size; omega)).trans (h.block k hk h1 h2)⟩

theorem bx_set1 {w : World} {S g n f c f' : Nat} (h : w.heap[S]? = some (bxO g n f c)) {v : Int} (hv : v = f') : (w.setCell ⟨S, 1, none⟩ (.int .i64 v)).heap[S]? = some (bxO g n f' c) := by
  subst hv
  simp only [World.setCell, Array.getElem?_modify, if_true, h, Option.map_some]
  rfl
theorem bx_set2 {w : World} {S g n f c c' : Nat} (h : w.heap[S]? = some (bxO g n f c)) {v : Int} (hv : v = c') : (w.setCell ⟨S, 2, none⟩ (.int .i64 v)).heap[S]? = some (bxO g n f c') := by
  subst hv
  simp only [World.setCell, Array.getElem?_modify, if_true, h, Option.map_some]
  rfl

set_option maxHeartbeats 400000 in
theorem cell_any (S g : Nat) (ws : List Int) (f n i : Nat) (w : World) (h : Hid (BX w S g ws f n)) (hi : i ≤ 20) (r : Nat) (hr : Hid (r = (f + i) % n)) :
    Calls Tryz.prog 44 #[.pointer (some ⟨S, 0, none⟩), .int .i64 i] w fun e w' => e = .returned (.int .i64 r) ∧ ∃ d, w' = w.drewN d := by
  obtain ⟨c0, c1, c2⟩ := h.out.cells
  have h1 := h.out.at'
  have h2 := h.out.most
  go_enter Tryz.func44, Tryz.ntmps44
  go_wp2
  go_quiet (fail)
  go_wp2
  go_ret
  exact ⟨by rw [hr.out]; rfl, _, rfl⟩

set_option maxHeartbeats 400000 in
theorem full_any (S g : Nat) (ws : List Int) (f n : Nat) (w : World) (h : Hid (BX w S g ws f n)) (b : Bool) (hb : Hid (b = decide (ws.length = n))) :
    Calls Tryz.prog 133 #[.pointer (some ⟨S, 0, none⟩)] w fun e w' => e = .returned (.bool b) ∧ ∃ d, w' = w.drewN d := by
  obtain ⟨c0, c1, c2⟩ := h.out.cells
  have e1 : ((ws.length : Int) == (n : Int)) = b := by rw [hb.out, Bool.eq_iff_iff]; simp; omega
  go_enter Tryz.func133, Tryz.ntmps133
  go_wp2
  go_quiet (fail)
  go_wp2
  go_ret
  exact ⟨rfl, _, rfl⟩

set_option maxHeartbeats 400000 in
theorem empty_any (S g : Nat) (ws : List Int) (f n : Nat) (w : World) (h : Hid (BX w S g ws f n)) (b : Bool) (hb : Hid (b = decide (ws.length = 0))) :
    Calls Tryz.prog 132 #[.pointer (some ⟨S, 0, none⟩)] w fun e w' => e = .returned (.bool b) ∧ w' = w := by
  obtain ⟨c0, c1, c2⟩ := h.out.cells
  have e1 : ((ws.length : Int) == 0) = b := by rw [hb.out, Bool.eq_iff_iff]; simp
  go_enter Tryz.func132, Tryz.ntmps132
  go_wp2
  go_ret
  exact ⟨rfl, rfl⟩

set_option maxHeartbeats 400000 in
theorem put_room (S g : Nat) (ws : List Int) (f n : Nat) (v : Int) (w : World) (h : Hid (BX w S g ws f n)) (hf : ws.length < n) :
    Calls Tryz.prog 134 #[.pointer (some ⟨S, 0, none⟩), .int .i64 v] w fun e w' => e = .returned (.tuple #[]) ∧ BX w' S g (ws ++ [v]) f n ∧ Mv w w' S g := by
  obtain ⟨c0, c1, c2⟩ := h.out.cells
  obtain ⟨f1, f2⟩ := h.out.free
  have hne : ¬ g = S := fun e => h.out.ne e.symm
  have h1 := h.out.at'
  have h2 := h.out.most
  obtain ⟨r, hr⟩ : ∃ r, r = (f + ws.length) % n := ⟨_, rfl⟩
  have hrn : r < n := by rw [hr]; exact Nat.mod_lt _ (by omega)
  obtain ⟨u, cu, fu⟩ := h.out.row.at r hrn
  have HR := hide hr
  clear hr
  have n0 : (0 : Int) ≤ (r : Int) := by omega
  have n1 : (r : Int) < (n : Int) := by omega
  go_enter Tryz.func134, Tryz.ntmps134
  go_wp2_with fail
  refine (full_any S g ws f n _ h false (hide (by simp; omega))).mono ?_
  rintro e w' ⟨rfl, d, rfl⟩
  go_wp2
  go_region_held3 (fun w' => w'.cell? ⟨S, 0, none⟩ = some (.slice (some ⟨g, 0, none⟩) n n) ∧ w'.cell? ⟨S, 2, none⟩ = some (.int .i64 ws.length)) (go_keep) ((go_at_call 44; refine (cell_any S g ws f n ws.length _ (hide (h.out.drewN _)) (by omega) r HR).mono ?_; rintro e w' ⟨rfl, d, rfl⟩))
  go_wp2
  go_end0
  refine ⟨rfl, ⟨?_, ?_, by simp; omega, h1, h2⟩, (((Mv.refl w S g).set (.inr (.inl rfl)) _).set (.inl rfl) _).drewN _⟩
  · rw [List.length_append]; exact bx_set2 ((Below.heap_setCell _ _ _ _ (fun e => hne e.symm)).trans h.out.blk) (by go_num)
  · have hp := h.out.row.put h1 hf v
    rw [← HR.out] at hp
    exact RK.far (Below.heap_setCell _ ⟨S, 2, none⟩ _ _ hne) hp

set_option maxHeartbeats 400000 in
theorem take_some (S g : Nat) (ws : List Int) (x : Int) (f n : Nat) (w : World) (h : Hid (BX w S g ws f n)) (hx : Hid (ws[0]? = some x)) :
    Calls Tryz.prog 135 #[.pointer (some ⟨S, 0, none⟩)] w fun e w' => e = .returned (.int .i64 x) ∧ BX w' S g ws.tail ((f + 1) % n) n ∧ Mv w w' S g := by
  obtain ⟨c0, c1, c2⟩ := h.out.cells
  obtain ⟨f1, f2⟩ := h.out.free
  have hne : ¬ g = S := fun e => h.out.ne e.symm
  have h1 := h.out.at'
  have h2 := h.out.most
  have hl : 0 < ws.length := (List.getElem?_eq_some_iff.1 hx.out).1
  obtain ⟨r, hr⟩ : ∃ r, r = (f + 1) % n := ⟨_, rfl⟩
  have hrn : r < n := by rw [hr]; exact Nat.mod_lt _ (by omega)
  have cx := h.out.row.word hx.out
  rw [Nat.add_zero, Nat.mod_eq_of_lt h1] at cx
  have HR := hide hr
  clear hr
  have n0 : (0 : Int) ≤ (f : Int) := by omega
  have n1 : (f : Int) < (n : Int) := by omega
  have hln := h.out.few
  go_enter Tryz.func135, Tryz.ntmps135
  go_wp2_with fail
  refine (empty_any S g ws f n _ h false (hide (by simp; intro e; rw [e] at hl; simp at hl))).mono ?_
  rintro e w' ⟨rfl, rfl⟩
  go_wp2
  go_quiet (fail)
  go_wp2_with fail
  refine (cell_any S g ws f n 1 _ (hide (h.out.drewN _)) (by omega) r HR).mono ?_
  rintro e w' ⟨rfl, d, rfl⟩
  go_wp2
  go_ret
  refine ⟨rfl, ⟨?_, ?_, by simp; omega, Nat.mod_lt _ (by omega), h2⟩, (((Mv.refl _ S g).set (.inl rfl) _).set (.inl rfl) _).drewN _⟩
  · rw [List.length_tail]; exact bx_set2 (bx_set1 h.out.blk (by rw [HR.out])) (by go_num)
  · exact RK.far ((Below.heap_setCell _ ⟨S, 2, none⟩ _ _ hne).trans (Below.heap_setCell _ ⟨S, 1, none⟩ _ _ hne)) h.out.row.take

end Go.Proofs.YtekjhefmhhcboaaGreat.Mb

/- The walk of words. -/
namespace Go.Proofs.YtekjhefmhhcboaaGreat.Mb
open Go.RowKit

theorem BX.lt {w : World} {S g : Nat} {ws : List Int} {f n : Nat} (h : BX w S g ws f n) : S < w.heap.size ∧ g < w.heap.size := by
  obtain ⟨cs, hc, _⟩ := h.row
  exact ⟨lt_of_block h.blk, lt_of_block hc⟩

/-- An append of one row of the call's own to another, as a step of a region that draws its order. -/
theorem step_append_two {P : Program} {ops : Array Oper} {o : Oper} {a : Act} {w : World} {K : Act → World → Prop} {Q : Exit → Act → World → Prop} {E : Prop} (hgd : o.guard = none) (s x : Operand) (t : TypeId)
    (ho : o.op = .call { callee := .builtin .append, args := #[s, x], argTypes := #[t, t] })
    (base : Nat) (e : TypeId) (i : TypeInfo) (z : Value) (size bytes : Nat) (ht : P.underlying t = some (.slice e)) (hi : P.info? e = some i) (hz : i.zero = some z)
    (hsize : i.size = size) (hby : i.bytes = bytes) (hzs : z.cells.size = size) (hsz : 0 < size)
    (v : Value) (n : Nat) (xs : List Value) (hs : a.eval s = v) (hown : w.ownsRow base e size v n xs)
    (b2 : Nat) (vx : Value) (m : Nat) (news : List Value) (hx : a.eval x = vx) (hown2 : w.ownsRow b2 e size vx m news) (h1 : ∀ u ∈ news, u.oneCell' = true)
    (h63 : n + m ≤ maxLen) (hbytes : (n + m) * bytes ≤ 140737488355328) (hbase : base ≤ w.heap.size)
    (h : ∀ v' w', w'.ownsRow base e size v' (n + m) (xs ++ news) → w.grownBy w' v.ownBlock → K (a.put o.dst v') w') :
    if Region.wanted o (yielded ops a.tmps) = true then Oper.wp P o a w K Q else E := by
  have hw : Region.wanted o (yielded ops a.tmps) = true := by simp [Region.wanted, hgd]
  rw [if_pos hw]
  have hl := hown2.1
  rcases hown2.2 with ⟨rfl, rfl⟩ | ⟨g, cap, cur, rfl, r⟩
  · have hrun := run_append_owned_none (P := P) (w := w) base t o.type e i size ht hi v n xs hown
    obtain rfl : news = [] := List.eq_nil_of_length_eq_zero (by simpa using hl)
    unfold Oper.wp
    simp [execOp, ho, resolve, invoke, builtin, hs, hx, hrun, Result.andThen]
    exact h v w (by simpa using hown) (World.grownBy.refl _ _)
  · exact wp_append_own w s x t ho base e i z size bytes ht hi hz hsize hby hzs hsz v n xs hs hown ⟨g, 0, none⟩ m cap news hx hl (hown2.cells (g := g) rfl) h1 h63 hbytes hbase (fun v' w' h2 h3 _ => h v' w' h2 h3)

theorem own_new1 (X : World) (e : TypeId) (u : Value) {M q : Nat} (hq : q = X.heap.size) (hM : M ≤ q) : (X.alloc (.cells #[u] e)).ownsRow M e 1 (.slice (some ⟨q, 0, none⟩) 1 1) 1 [u] := by
  subst hq
  exact ⟨rfl, .inr ⟨X.heap.size, 1, #[u], rfl, hM, heap_alloc_new X _, Nat.le_refl _, by unfold maxLen; omega, rfl, rfl⟩⟩

theorem own_ty {w : World} {B e size n k : Nat} {v : Value} {xs : List Value} {cs : Array Value} {t : TypeId} {fr : Nat × Nat} (h : w.ownsRow B e size v n xs) (hk : w.heap[k]? = some (.cells cs t fr)) (ht : t ≠ e) : v.ownBlock ≠ some k := by
  rcases h.2 with ⟨rfl, _⟩ | ⟨g', cap, cur, rfl, _, hh, _⟩
  · simp [Value.ownBlock]
  · intro e1
    simp only [Value.ownBlock, Option.some.injEq] at e1
    subst e1
    rw [hh] at hk
    simp at hk
    exact ht hk.2.1.symm

theorem own_base {w : World} {B C e size n : Nat} {v : Value} {xs : List Value} (h : w.ownsRow C e size v n xs) (hB : B ≤ C) : w.ownsRow B e size v n xs := by
  refine ⟨h.1, ?_⟩
  rcases h.2 with h2 | ⟨g, cap, cur, hv, hg, r⟩
  · exact .inl h2
  · exact .inr ⟨g, cap, cur, hv, Nat.le_trans hB hg, r⟩

theorem own_keep {w w' : World} {B e size n : Nat} {v : Value} {xs : List Value} (h : w.ownsRow B e size v n xs) (hk : ∀ k, v.ownBlock = some k → w'.heap[k]? = w.heap[k]?) : w'.ownsRow B e size v n xs := by
  refine ⟨h.1, ?_⟩
  rcases h.2 with h2 | ⟨g', cap, cur, rfl, hB, hh, hr⟩
  · exact .inl h2
  · exact .inr ⟨g', cap, cur, rfl, hB, (hk g' rfl).trans hh, hr⟩

theorem one_news (W : World) (u : Value) (t : TypeId) : ∀ j u', [u][j]? = some u' → (W.alloc (.cells #[u] t)).cell? ((⟨W.heap.size, 0, none⟩ : Addr).add j) = some u'
  | 0, u', h => by simp at h; subst h; simp [Addr.add]
  | j + 1, u', h => by simp at h
theorem one_cell1 (x : Int) : ∀ u ∈ [Value.int .i64 x], u.oneCell' = true := by intro u hu; simp at hu; subst hu; rfl

theorem BX.on {w w' : World} {S g : Nat} {ws : List Int} {f n : Nat} (h : BX w S g ws f n) (hb : Below w.heap.size w w') : BX w' S g ws f n := by
  obtain ⟨hS, hg⟩ := h.lt
  exact ⟨(hb.block S hS).trans h.blk, RK.far (hb.block g hg) h.row, h.few, h.at', h.most⟩

theorem ints_take {ws : List Int} {k : Nat} {x : Int} (h : ws[k]? = some x) : ints (ws.take (k + 1)) = ints (ws.take k) ++ [.int .i64 x] := by
  obtain ⟨hk, rfl⟩ := List.getElem?_eq_some_iff.1 h
  unfold ints
  rw [List.take_succ_eq_append_getElem hk, List.map_append]
  rfl

structure WdAt (w : World) (ws : List Int) (k : Nat) (v : Value) (W : World) : Prop where
  le : k ≤ ws.length
  own : W.ownsRow w.heap.size 2 1 v k (ints (ws.take k))
  below : Below w.heap.size w W

theorem WdAt.next {w : World} {ws : List Int} {k : Nat} {v v' : Value} {W w3 W2 : World} {x : Int} (h : WdAt w ws k v W) (hx : ws[k]? = some x) (hW : Below W.heap.size W W2) (hown : w3.ownsRow w.heap.size 2 1 v' (k + 1) (ints (ws.take k) ++ [.int .i64 x])) (hg : W2.grownBy w3 v.ownBlock) : WdAt w ws (k + 1) v' w3 := by
  refine ⟨(List.getElem?_eq_some_iff.1 hx).1, by rw [ints_take hx]; exact hown, ?_⟩
  have h1 := h.below.size
  have h2 := hW.size
  exact (h.below.trans (hW.mono h1)).grown hg (by omega) (fun j hj => (h.own.lt j hj).1)

set_option maxRecDepth 100000 in
set_option maxHeartbeats 1000000 in
theorem words_any (S g : Nat) (ws : List Int) (f n : Nat) (w : World) (h : Hid (BX w S g ws f n)) :
    Calls Tryz.prog 29 #[.pointer (some ⟨S, 0, none⟩)] w fun e w' => ∃ v, e = .returned v ∧ w'.ownsRow w.heap.size 2 1 v ws.length (ints ws) ∧ Below w.heap.size w w' := by
  obtain ⟨i0, hi, hz0, hz1, hz2⟩ := info_parts Tryz.info2
  obtain ⟨c0, c1, c2⟩ := h.out.cells
  obtain ⟨hS, hg⟩ := h.out.lt
  have h1 := h.out.at'
  have h2 := h.out.most
  have h3 := h.out.few
  go_enter Tryz.func29, Tryz.ntmps29
  go_wp2
  go_loopw [3, 9] (fun v i wr => ∃ k : Nat, i = .int .i64 k ∧ WdAt w ws k v wr) (fun _ i _ => ws.length - (intOf i).toNat)
  case atStart => exact ⟨0, rfl, Nat.zero_le _, by simpa using World.ownsRow_nil _ _ _ _, Below.refl _ _⟩
  case round =>
    obtain ⟨k, rfl, hA⟩ := hrel
    have HA := hide hA
    have hk := hA.le
    have HBX := hide (h.out.on hA.below)
    have hsz := hA.below.size
    clear hA c0 c1 c2
    obtain ⟨c0, c1, c2⟩ := HBX.out.cells
    by_cases hlt : k < ws.length
    · obtain ⟨x, hx⟩ : ∃ x, ws[k]? = some x := ⟨_, List.getElem?_eq_getElem hlt⟩
      have HX := hide hx
      obtain ⟨r, hr⟩ : ∃ r, r = (f + k) % n := ⟨_, rfl⟩
      have hrn : r < n := by rw [hr]; exact Nat.mod_lt _ (by omega)
      have cx := HBX.out.row.word hx
      rw [← hr] at cx
      have HR := hide hr
      clear hr hx
      have n0 : (0 : Int) ≤ (r : Int) := by omega
      have n1 : (r : Int) < (n : Int) := by omega
      go_wp2
      go_region_held3 (fun w' => w'.cell? ⟨S, 0, none⟩ = some (.slice (some ⟨g, 0, none⟩) n n) ∧ w'.cell? ⟨g, r, none⟩ = some (.int .i64 x)) (go_keep) (first | (go_at_call 44; refine (cell_any S g ws f n k _ (hide (HBX.out.drew)) (by omega) r HR).mono ?_; rintro e w' ⟨rfl, d, rfl⟩) | (refine step_append_two rfl (.tmp 12) (.tmp 22) 46 rfl w.heap.size 2 i0 (.int .i64 0) 1 8 Tryz.underlying46 hi hz0 hz1 hz2 rfl (by decide) _ k (ints (ws.take k)) rfl (HA.out.own.drew.alloc _) wr.heap.size _ 1 [.int .i64 x] rfl (own_new1 _ _ _ rfl (Nat.le_refl _)) (one_cell1 _) (by unfold maxLen; omega) (by omega) (by simp; omega) ?_; intro v5 w5 h5 g5; have HN : Hid (WdAt w ws (k + 1) v5 w5) := HA.out.next HX.out (by exact ⟨rfl, rfl, rfl, by simp, fun j hj => Below.heap_alloc _ _ _ hj⟩) h5 g5; have HBX5 := hide (h.out.on HN.out.below); have c0 : w5.cell? ⟨S, 0, none⟩ = some (.slice (some ⟨g, 0, none⟩) n n) := HBX5.out.cells.1; have cx : w5.cell? ⟨g, r, none⟩ = some (.int .i64 x) := (by rw [HR.out]; exact HBX5.out.row.word HX.out); clear h5 g5))
      go_wp2
      go_roundw
      case rel => exact ⟨k + 1, by go_num, HN.out⟩
      case measure => simp [intOf]; omega
    · obtain rfl : k = ws.length := by omega
      go_wp2
      go_ret
      exact ⟨_, rfl, by have := HA.out.own; rw [List.take_length] at this; exact this, HA.out.below⟩

end Go.Proofs.YtekjhefmhhcboaaGreat.Mb

/- The walk of mail.New. -/
namespace Go.Proofs.YtekjhefmhhcboaaGreat.Mb
open Go.RowKit

set_option maxHeartbeats 400000 in
/-- WHAT mail.New ANSWERS. -/
theorem mnew_any (n : Nat) (w : World) (h1 : 1 ≤ n) (h3 : n ≤ 20) :
    Calls Tryz.prog 24 #[.int .i64 n] w fun e w' => ∃ S, e = .returned (.tuple #[.pointer (some ⟨S, 0, none⟩), .int .i64 0]) ∧ BX w' S w.heap.size [] 0 n ∧ w.heap.size < S ∧ Below w.heap.size w w' := by
  obtain ⟨i0, hi, hz0, hz1, hz2⟩ := info_parts Tryz.info2
  have n1 : ¬ (n : Int) < 1 := by omega
  have n3 : ¬ (20 : Int) < (n : Int) := by omega
  go_enter Tryz.func24, Tryz.ntmps24
  go_wp2_with (at_make; refine wpList_make_full _ rfl _ _ 46 rfl w.heap.size 2 i0 (.int .i64 0) 1 Tryz.underlying46 hi hz0 hz1 _ _ _ _ n rfl rfl rfl rfl (by rw [hz2]; omega) (by unfold maxLen; omega) (Nat.le_refl _) ?_; intro w1 hown hgrow)
  have hb : Below w.heap.size w w1 := (Below.refl _ w).grown hgrow (Nat.le_refl _) (fun k hk => by simp at hk)
  have hrk : RK w1 w.heap.size [] 0 n := by
    rcases hown.2 with ⟨hv, _⟩ | ⟨g', cap, cur, hv, _, hh, _, _, hc, _⟩
    · simp at hv
    · simp at hv
      obtain ⟨rfl, rfl⟩ := hv
      exact ⟨cur.toList, hh, by simpa using hc, fun i x hx => by simp at hx⟩
  have hz := lt_of_block hrk.choose_spec.1
  have HS0 := hide (show BX (w1.alloc (bxO w.heap.size n 0 0)) w1.heap.size w.heap.size [] 0 n from ⟨heap_alloc_new w1 _, RK.far (Below.heap_alloc _ _ _ hz) hrk, Nat.zero_le _, by omega, h3⟩)
  have HB := hide (hb.alloc hb.size (bxO w.heap.size n 0 0))
  clear hown hgrow n1 n3 hb hrk
  go_wp2
  go_ret2
  exact ⟨_, rfl, HS0.out, hz, HB.out⟩
end Go.Proofs.YtekjhefmhhcboaaGreat.Mb

