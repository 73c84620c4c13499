/- The walks of pop and set. -/
import Derived.Test.YtlbihbfgglnfnaaGreatM27
set_option maxHeartbeats 400000
namespace Go.Proofs.YtlbihbfgglnfnaaGreat.Sb
open Go.RowKit
theorem hide {p : Prop} (h : p) : Hid p := h
theorem mv_on {w a b c : World} {S g : Nat} (h : Mv w a S g) (k : Mv b c S g) (hos : b.os = a.os := by rfl) (ht : b.tape = a.tape := by rfl) (ho : b.output = a.output := by rfl) (hh : b.heap = a.heap := by rfl) : Mv w c S g :=
 ⟨k.os.trans (hos.trans h.os), k.tape.trans (ht.trans h.tape), k.output.trans (ho.trans h.output), by have := h.size; have := k.size; rw [hh] at this; omega, fun i hi h1 h2 => by
  rw [k.block i (by rw [hh]; have := h.size; omega) h1 h2, hh]; exact h.block i hi h1 h2⟩
theorem Mv.drewN {w w' : World} {S g : Nat} (h : Mv w w' S g) (n : Nat) : Mv w (w'.drewN n) S g := ⟨h.os, h.tape, h.output, h.size, h.block⟩
theorem pop_bad (S g : Nat) (ws : List Int) (r mn most : Nat) (n : Int) (w : World) (h : Hid (SK w S g ws r mn most)) (hn : n < 0 ∨ (ws.length : Int) < n) :
  Calls Tryz.prog 90 #[.pointer (some ⟨S, 0, none⟩), .int .i64 n] w fun e w' => e = .returned (.int .i64 3) ∧ Mv w w' S g := by
 obtain ⟨c0, c1, c2, c3⟩ := h.out.cells
 by_cases hz : n < 0
 ·go_enter Tryz.func90, Tryz.ntmps90
  go_wp2
  go_ret
  exact ⟨rfl, Mv.refl _ _ _⟩
 ·have hz2 : (ws.length : Int) < n := by omega
  clear hn
  go_enter Tryz.func90, Tryz.ntmps90
  go_wp2
  go_ret
  exact ⟨rfl, Mv.refl _ _ _⟩
theorem SK.popped {w : World} {S g : Nat} {ws : List Int} {r mn most k : Nat} (h : SK w S g ws r mn most) (hk : k ≤ ws.length) : SK (w.setCell ⟨S, 1, none⟩ (.int .i64 ((ws.length : Int) - (k : Int)))) S g (ws.take (ws.length - k)) r mn most := by
 have e : (ws.take (ws.length - k)).length = ws.length - k := by simp
 refine ⟨?_, ?_, ?_⟩
 ·rw [e]; exact sk_set1 h.1 (by omega)
 ·exact CK.far (Below.heap_setCell _ _ _ _ (fun e => h.ne e.symm)) (h.2.1.pop _ (by omega))
 ·rw [e]; have := h.2.2; unfold Sk.Fits at *; omega
theorem pop_keep (S g : Nat) (ws : List Int) (r mn most k : Nat) (w : World) (h : Hid (SK w S g ws r mn most)) (hk : k ≤ ws.length) (hs : ¬ (ws.length - k ≤ r / 4 ∧ mn < r)) :
  Calls Tryz.prog 90 #[.pointer (some ⟨S, 0, none⟩), .int .i64 k] w fun e w' => e = .returned (.int .i64 0) ∧ SK w' S g (ws.take (ws.length - k)) r mn most ∧ Mv w w' S g := by
 obtain ⟨c0, c1, c2, c3⟩ := h.out.cells
 obtain ⟨f0, f1⟩ := h.out.free
 have HSK := hide (h.out.popped hk)
 have hfit := h.out.2.2
 unfold Sk.Fits at hfit
 obtain ⟨h3, h4, h5, h6, h7⟩ := hfit
 have n0 : ¬ (k : Int) < 0 := by omega
 have n1 : ¬ (ws.length : Int) < (k : Int) := by omega
 by_cases hc : ws.length - k ≤ r / 4
 ·have d1 : decide ((ws.length : Int) - (k : Int) ≤ (r : Int) / 4) = true := by simp; omega
  have d2 : decide ((mn : Int) < (r : Int)) = false := by simp; omega
  have hmr : ¬ mn < r := by omega
  clear hs hc
  go_enter Tryz.func90, Tryz.ntmps90
  go_wp2
  go_quiet ((go_at_call 86; exact Calls.quiet_of_same (room_any S g (ws.take (ws.length - k)) r mn most _ HSK.out)))
  go_wp2
  go_ret
  exact ⟨rfl, HSK.out, ((Mv.refl w S g).set (.inl rfl) _).drewN _⟩
 ·have d1 : decide ((ws.length : Int) - (k : Int) ≤ (r : Int) / 4) = false := by simp; omega
  clear hs hc
  go_enter Tryz.func90, Tryz.ntmps90
  go_wp2
  go_quiet ((go_at_call 86; exact Calls.quiet_of_same (room_any S g (ws.take (ws.length - k)) r mn most _ HSK.out)))
  go_wp2
  go_ret
  exact ⟨rfl, HSK.out, ((Mv.refl w S g).set (.inl rfl) _).drewN _⟩
theorem pop_move (S g : Nat) (ws : List Int) (r q mn most k : Nat) (w : World) (h : Hid (SK w S g ws r mn most)) (hk : k ≤ ws.length) (hc : ws.length - k ≤ r / 4) (hm : mn < r) (hq : Hid (q = max (r / 2) mn)) :
  Calls Tryz.prog 90 #[.pointer (some ⟨S, 0, none⟩), .int .i64 k] w fun e w' => e = .returned (.int .i64 0) ∧ SK w' S w.heap.size (ws.take (ws.length - k)) q mn most ∧ Mv w w' S g := by
 obtain ⟨c0, c1, c2, c3⟩ := h.out.cells
 obtain ⟨f0, f1⟩ := h.out.free
 have HSK := hide (h.out.popped hk)
 have hfit := h.out.2.2
 unfold Sk.Fits at hfit
 obtain ⟨h3, h4, h5, h6, h7⟩ := hfit
 have n0 : ¬ (k : Int) < 0 := by omega
 have n1 : ¬ (ws.length : Int) < (k : Int) := by omega
 have d1 : decide ((ws.length : Int) - (k : Int) ≤ (r : Int) / 4) = true := by simp; omega
 have d2 : decide ((mn : Int) < (r : Int)) = true := by simp; omega
 have hq1 : (ws.take (ws.length - k)).length ≤ q := by have := hq.out; simp; omega
 have hq2 : q ≤ 400 := by have := hq.out; omega
 have HQV : Hid ((if IntKind.i64.wrap ((r : Int) / 2) < (mn : Int) then (mn : Int) else IntKind.i64.wrap ((r : Int) / 2)) = (q : Int)) := by
  unfold Hid
  rw [IntWalk.i64_in _ ⟨by omega, by omega⟩, hq.out]
  split <;> omega
 have HM0 : Hid (Mv w (w.setCell ⟨S, 1, none⟩ (.int .i64 ((ws.length : Int) - (k : Int)))) S g) := (Mv.refl w S g).set (.inl rfl) _
 have HF : Hid (Sk.Fits mn most (ws.take (ws.length - k)).length q) := by have := hq.out; unfold Hid Sk.Fits; simp; omega
 go_enter Tryz.func90, Tryz.ntmps90
 go_wp2
 go_quiet ((go_at_call 86; exact Calls.quiet_of_same (room_any S g (ws.take (ws.length - k)) r mn most _ HSK.out)))
 go_wp2
 have k2 : (w.setCell ⟨S, 1, none⟩ (.int .i64 ((ws.length : Int) - (k : Int)))).cell? ⟨S, 2, none⟩ = some (.int .i64 mn) := HSK.out.cells.2.2.1
 go_region_held3 (fun w' => w'.cell? ⟨S, 2, none⟩ = some (.int .i64 mn)) (go_keep) (first | (go_at_call 86; refine (room_any S g (ws.take (ws.length - k)) r mn most _ (by exact HSK.out)).mono ?_; rintro e w' ⟨rfl, rfl⟩) | (go_at_call 87; rw [HQV.out]; refine (move_any S g (ws.take (ws.length - k)) r q mn most _ (by exact HSK.out) hq1 hq2).mono ?_; rintro e w1 ⟨rfl, hS1, hC1, hM1⟩; have HS1 : Hid (SK w1 S w.heap.size (ws.take (ws.length - k)) q mn most ∧ Mv w w1 S g) := ⟨⟨by simpa using hS1, by simpa using hC1, HF.out⟩, mv_on HM0.out hM1⟩; clear hS1 hC1 hM1; have k2 : w1.cell? ⟨S, 2, none⟩ = some (.int .i64 mn) := HS1.out.1.cells.2.2.1))
 go_wp2
 go_ret
 exact ⟨rfl, HS1.out⟩
theorem set_good (S g : Nat) (ws : List Int) (r mn most k : Nat) (v : Int) (w : World) (h : Hid (SK w S g ws r mn most)) (hk : k < ws.length) :
  Calls Tryz.prog 57 #[.pointer (some ⟨S, 0, none⟩), .int .i64 k, .int .i64 v] w fun e w' => e = .returned (.int .i64 0) ∧ SK w' S g (ws.set k v) r mn most ∧ Mv w w' S g := by
 obtain ⟨c0, c1, c2, c3⟩ := h.out.cells
 have hfit := h.out.2.2
 unfold Sk.Fits at hfit
 obtain ⟨h3, h4, h5, h6, h7⟩ := hfit
 obtain ⟨u, cu, fu⟩ := h.out.2.1.at k (by omega)
 have hne : ¬ g = S := fun e => h.out.ne e.symm
 have n0 : (0 : Int) ≤ (k : Int) := by omega
 have n1 : (k : Int) < (ws.length : Int) := by omega
 have n2 : (k : Int) < (r : Int) := by omega
 go_enter Tryz.func57, Tryz.ntmps57
 go_wp2
 go_ret
 refine ⟨rfl, ⟨?_, h.out.2.1.put k v, ?_⟩, (Mv.refl w S g).set (.inr (.inl rfl)) _⟩
 ·rw [List.length_set]; exact (Below.heap_setCell _ _ _ _ (fun e => hne e.symm)).trans h.out.1
 ·rw [List.length_set]; exact h.out.2.2
def Did (w w' : World) (S g mn most E : Nat) (ws : List Int) (r : Nat) : Prop := (E = 0 → ∃ g', SK w' S g' ws r mn most ∧ (g' = g ∨ w.heap.size ≤ g')) ∧ Mv w w' S g
theorem Sk.err1 (most c : Nat) (o : Sk.Op) (h : o.kind = 1) : Sk.err most c o = if c = most then 4 else 0 := by unfold Sk.err; rw [if_pos h]
theorem Sk.err2 (most c : Nat) (o : Sk.Op) (h : o.kind = 2) : Sk.err most c o = if o.n < 0 ∨ (c : Int) < o.n then 3 else 0 := by unfold Sk.err; rw [if_neg (by omega), if_pos h]
theorem push_any (S g : Nat) (ws : List Int) (r mn most : Nat) (o : Sk.Op) (w : World) (h : Hid (SK w S g ws r mn most)) (ho : o.kind = 1) :
  Calls Tryz.prog 50 #[.pointer (some ⟨S, 0, none⟩), .int .i64 o.v] w fun e w' => e = .returned (.int .i64 (Sk.err most ws.length o : Nat)) ∧ Did w w' S g mn most (Sk.err most ws.length o) (Sk.wds ws o) (Sk.rm mn most r ws.length o) := by
 rw [Sk.err1 _ _ _ ho]
 have hfit := h.out.2.2
 have hS := lt_of_block h.out.1
 by_cases hm : ws.length = most
 ·rw [if_pos hm]
  refine (push_full S g ws r mn most o.v w h hm).mono ?_
  rintro e w' ⟨rfl, hM⟩
  exact ⟨rfl, fun h => by omega, hM⟩
 ·rw [if_neg hm]
  have he : Sk.err most ws.length o = 0 := by rw [Sk.err1 _ _ _ ho, if_neg hm]
  have hf2 := Sk.fits_next hfit he
  have ew : Sk.wds ws o = ws ++ [o.v] := by unfold Sk.wds; rw [if_pos ho]
  have er : Sk.rm mn most r ws.length o = if ws.length = r then min (2 * r) most else r := by unfold Sk.rm; rw [if_pos ho]
  rw [ew, er] at hf2
  rw [ew, er]
  unfold Sk.Fits at hfit
  by_cases hr : ws.length = r
  ·rw [if_pos hr] at hf2 ⊢
   refine (push_grow S g ws r (min (2 * r) most) mn most o.v w h hr (by omega) rfl).mono ?_
   rintro e w' ⟨rfl, hS', hC, hM⟩
   exact ⟨rfl, fun _ => ⟨w.heap.size, ⟨by simpa using hS', hC, hf2⟩, .inr (Nat.le_refl _)⟩, hM⟩
  ·rw [if_neg hr] at hf2 ⊢
   refine (push_room S g ws r mn most o.v w h (by omega)).mono ?_
   rintro e w' ⟨rfl, hS', hC, hM⟩
   exact ⟨rfl, fun _ => ⟨g, ⟨by simpa using hS', hC, hf2⟩, .inl rfl⟩, hM⟩
theorem pop_any (S g : Nat) (ws : List Int) (r mn most : Nat) (o : Sk.Op) (w : World) (h : Hid (SK w S g ws r mn most)) (ho : o.kind = 2) :
  Calls Tryz.prog 90 #[.pointer (some ⟨S, 0, none⟩), .int .i64 o.n] w fun e w' => e = .returned (.int .i64 (Sk.err most ws.length o : Nat)) ∧ Did w w' S g mn most (Sk.err most ws.length o) (Sk.wds ws o) (Sk.rm mn most r ws.length o) := by
 rw [Sk.err2 _ _ _ ho]
 by_cases hm : o.n < 0 ∨ (ws.length : Int) < o.n
 ·rw [if_pos hm]
  refine (pop_bad S g ws r mn most o.n w h hm).mono ?_
  rintro e w' ⟨rfl, hM⟩
  exact ⟨rfl, fun h => by omega, hM⟩
 ·rw [if_neg hm]
  obtain ⟨k, hk⟩ : ∃ k : Nat, o.n = k := ⟨o.n.toNat, by omega⟩
  have ew : Sk.wds ws o = ws.take (ws.length - k) := by unfold Sk.wds; rw [if_neg (by omega), if_pos ho, hk]; rfl
  have er : Sk.rm mn most r ws.length o = if ws.length - k ≤ r / 4 ∧ mn < r then max (r / 2) mn else r := by unfold Sk.rm; rw [if_neg (by omega), if_pos ho, hk]; rfl
  rw [ew, er, hk]
  by_cases hc : ws.length - k ≤ r / 4 ∧ mn < r
  ·rw [if_pos hc]
   refine (pop_move S g ws r (max (r / 2) mn) mn most k w h (by omega) hc.1 hc.2 rfl).mono ?_
   rintro e w' ⟨rfl, hS', hM⟩
   exact ⟨rfl, fun _ => ⟨w.heap.size, hS', .inr (Nat.le_refl _)⟩, hM⟩
  ·rw [if_neg hc]
   refine (pop_keep S g ws r mn most k w h (by omega) hc).mono ?_
   rintro e w' ⟨rfl, hS', hM⟩
   exact ⟨rfl, fun _ => ⟨g, hS', .inl rfl⟩, hM⟩
theorem SK.alloc {w : World} {S g : Nat} {ws : List Int} {r mn most : Nat} (h : SK w S g ws r mn most) (o : Obj) : SK (w.alloc o) S g ws r mn most := by
 obtain ⟨cs, hc, hr⟩ := h.2.1
 exact ⟨(Below.heap_alloc _ _ _ (lt_of_block h.1)).trans h.1, ⟨cs, (Below.heap_alloc _ _ _ (lt_of_block hc)).trans hc, hr⟩, h.2.2⟩
theorem CK.alloc {w : World} {g : Nat} {ws : List Int} {r : Nat} (h : CK w g ws r) (o : Obj) : CK (w.alloc o) g ws r := by
 obtain ⟨cs, hc, hr⟩ := h
 exact ⟨cs, (Below.heap_alloc _ _ _ (lt_of_block hc)).trans hc, hr⟩
theorem not_nil (g c r : Nat) (w : World) : Sem.run Tryz.prog (binOp BinOp.eql 33 (.slice (some ⟨g, 0, none⟩) c r) (.slice none 0 0)) w = .ok (.bool false) w := by kernel_rfl
theorem clone_any (g : Nat) (ws : List Int) (r c : Nat) (w : World) (h : Hid (CK w g ws r)) (hc : Hid (c = ws.length)) (hl : ws.length ≤ 400) :
  Calls Tryz.prog 63 #[.slice (some ⟨g, 0, none⟩) c r] w fun e w' => ∃ v, e = .returned v ∧ w'.ownsRow w.heap.size 2 1 v ws.length (ints ws) ∧ Below w.heap.size w w' := by
 obtain ⟨i0, hi, hz0, hz1, hz2⟩ := info_parts Tryz.info2
 have hnn := not_nil g c r w
 have hcl : c ≤ 400 := by have := hc.out; omega
 go_enter Tryz.func63, Tryz.ntmps63
 have HO : Hid ((w.alloc (.cells #[] 2)).ownsRow w.heap.size 2 1 (.slice (some ⟨w.heap.size, 0, none⟩) 0 0) 0 []) := ⟨rfl, .inr ⟨w.heap.size, 0, #[], rfl, Nat.le_refl _, heap_alloc_new w _, Nat.le_refl _, Nat.zero_le _, rfl, rfl⟩⟩
 have HN : Hid (∀ j u, (ints ws)[j]? = some u → (w.alloc (.cells #[] 2)).cell? ((⟨g, 0, none⟩ : Addr).add j) = some u) := CK.cellAt (h.out.alloc _)
 have HL : Hid ((ints ws).length = c * 1) := by unfold Hid; have := hc.out; simp; omega
 go_wp2_with (at_builtin; refine wpList_append_own _ rfl _ _ 33 rfl w.heap.size 2 i0 (.int .i64 0) 1 8 Tryz.underlying33 hi hz0 hz1 hz2 rfl (by decide) _ _ _ rfl HO.out ⟨g, 0, none⟩ c r (ints ws) rfl HL.out HN.out (ints_one ws) (by unfold maxLen; omega) (by omega) (by simp) ?_; intro v' w3 hown hgrow hz)
 have HW : Hid (w3.ownsRow w.heap.size 2 1 v' ws.length (ints ws)) := by
  unfold Hid
  have := hown
  rw [hc.out] at this
  simpa using this
 have hg2 : (w.alloc (.cells #[] 2)).grownBy w3 (some w.heap.size) := hgrow
 have HB : Hid (Below w.heap.size w w3) := ((Below.refl _ w).alloc (Nat.le_refl _) _).grown hg2 (by simp) (fun k hk => by simp at hk; omega)
 clear hown hgrow hz hg2
 go_wp2
 go_ret
 exact ⟨v', rfl, HW.out, HB.out⟩
end Go.Proofs.YtlbihbfgglnfnaaGreat.Sb
