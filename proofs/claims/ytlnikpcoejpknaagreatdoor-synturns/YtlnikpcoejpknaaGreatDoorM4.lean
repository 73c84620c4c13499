/- How long a first token is. -/
import Derived.Test.YtlnikpcoejpknaaGreatDoorM2
import Derived.Test.YtlnikpcoejpknaaGreatDoorM3
import Derived.Deep.RegionWith
import Derived.Deep.DeepCutAuto
namespace Go.Proofs.YtlnikpcoejpknaaGreatDoor
namespace Lx

theorem firstL_len {l : List UInt8} {E K N M : Nat} (h : firstL l = (E, K, N, M)) : N ≤ l.length := by
  match l with
  | [] => simp [firstL] at h; omega
  | c :: r =>
    have h1 := span_le isWrd (c :: r)
    have h2 := span_le isDig (c :: r)
    have h3 := signL_le (c :: r)
    simp only [firstL] at h
    split at h
    · simp only [Prod.mk.injEq] at h; omega
    · split at h
      · split at h <;> simp only [Prod.mk.injEq] at h <;> omega
      · split at h <;> simp only [Prod.mk.injEq] at h <;> omega

theorem span_pos {p : UInt8 → Bool} {c : UInt8} {r : List UInt8} (h : p c = true) : 0 < span p (c :: r) := by
  unfold span; rw [List.takeWhile_cons, if_pos h]; simp

theorem firstL_pos {l : List UInt8} {K N M : Nat} (h : firstL l = (0, K, N, M)) : 0 < N ∧ 0 < K := by
  match l with
  | [] => simp [firstL] at h
  | c :: r =>
    simp only [firstL] at h
    split at h
    · rename_i hl
      have := span_pos (p := isWrd) (c := c) (r := r) (by simp [isWrd, hl])
      simp only [Prod.mk.injEq] at h; omega
    · split at h
      · rename_i hd
        have := span_pos (p := isDig) (c := c) (r := r) hd
        split at h <;> simp only [Prod.mk.injEq] at h <;> omega
      · split at h <;> simp only [Prod.mk.injEq] at h <;> omega

end Lx

theorem extract_to_end (s : ByteArray) (p : Nat) : (s.extract p s.size).data.toList = s.data.toList.drop p := by
  rw [ByteArray.data_extract]
  simp only [Array.toList_extract, List.extract_eq_take_drop]
  exact List.take_of_length_le (by simp)

theorem extract_of_rest (s : ByteArray) (p N : Nat) (h : N ≤ s.size - p) : (s.extract p s.size).extract 0 N = s.extract p (p + N) := by
  apply ByteArray.ext
  apply Array.toList_inj.1
  simp only [ByteArray.data_extract, Array.toList_extract, List.extract_eq_take_drop, List.drop_zero, Nat.sub_zero]
  have e : p + N - p = N := by omega
  rw [e, List.take_take]
  congr 1
  have : s.data.size = s.size := rfl
  omega

end Go.Proofs.YtlnikpcoejpknaaGreatDoor

/- The walks of the closure that cutter hands back, of cutter, and of Tokens. -/
namespace Go.Proofs.YtlnikpcoejpknaaGreatDoor
open Go.RowKit

theorem extract_zero (s : ByteArray) : s.extract 0 0 = ⟨#[]⟩ := by apply ByteArray.ext; simp

set_option maxHeartbeats 400000 in
theorem first_any (s : ByteArray) (w : World) (h0 : 0 < s.size) (hs : s.size ≤ 6000) (E K N M : Nat) (hF : Lx.firstL s.data.toList = (E, K, N, M)) :
    Calls Tryz.prog 65 #[.string s] w fun e w' => e = .returned (.tuple #[.agg #[.int .i64 K, .string (s.extract 0 N), .int .i64 M, .int .i64 0], .int .i64 E]) ∧ Below w.heap.size w w' := by
  have hF' := hF
  rw [Lx.byte_cons s h0] at hF'
  simp only [Lx.firstL] at hF'
  rw [← Lx.byte_cons s h0] at hF'
  cases hl : Lx.isLet s[0]
  · rw [hl] at hF'
    cases hd : Lx.isDig s[0]
    · rw [hd] at hF'
      by_cases hz : Lx.signL s.data.toList = 0
      · simp [hz] at hF'
        obtain ⟨rfl, rfl, rfl, rfl⟩ := hF'
        rw [extract_zero]
        exact first_none s w h0 hs hl hd hz
      · simp [hz] at hF'
        obtain ⟨rfl, rfl, rfl, rfl⟩ := hF'
        exact first_sign s w h0 hs hl hd hz
    · rw [hd] at hF'
      by_cases h15 : 15 < Lx.span Lx.isDig s.data.toList
      · simp [h15] at hF'
        obtain ⟨rfl, rfl, rfl, rfl⟩ := hF'
        rw [extract_zero]
        exact first_long s w h0 hs hl hd h15
      · simp [h15] at hF'
        obtain ⟨rfl, rfl, rfl, rfl⟩ := hF'
        rw [← extract_list]
        exact first_num s w h0 hs hl hd (by omega)
  · rw [hl] at hF'
    simp at hF'
    obtain ⟨rfl, rfl, rfl, rfl⟩ := hF'
    exact first_word s w h0 hs hl

theorem keep_one {B A : Nat} {W w1 : World} {v : Value} {t : TypeId} (hb : Below B W w1) (hl : A < B) (h : W.heap[A]? = some (.cells #[v] t (0, 0))) : w1.heap[A]? = some (.cells #[v] t (0, 0)) := (hb.block A hl).trans h

/-- Two blocks more: what was there is there. -/
theorem two_more {w : World} {A : Nat} {o : Obj} (h : w.heap[A]? = some o) (o1 o2 : Obj) : ((w.alloc o1).alloc o2).heap[A]? = some o := by
  have := lt_of_block h
  rw [Below.heap_alloc _ _ _ (by simp; omega), Below.heap_alloc _ _ _ this]; exact h

theorem gap_at (s : ByteArray) (a g : Nat) (w : World) (hs : s.size ≤ 6000) (hg : Hid (Lx.gapL false (s.data.toList.drop a) = g)) :
    Calls Tryz.prog 64 #[.string (s.extract a s.size)] w fun e w' => e = .returned (.int .i64 (g : Int)) ∧ Below w.heap.size w w' := by
  have h := gap_any (s.extract a s.size) w (by simp; unfold maxLen; omega)
  rw [extract_to_end, hg.out] at h
  exact h

abbrev Z4 : Obj := .cells #[.int .i64 0, .string ⟨#[]⟩, .int .i64 0, .int .i64 0] 84 (0, 0)
abbrev Z2 : Obj := .cells #[.int .i64 0, .int .i64 0] 25 (0, 0)

/-- What the closure's world is behind 'at += gap(s[at:])'. -/
def AtRel (s : ByteArray) (A S p : Nat) (w wx : World) : Prop :=
  wx.heap[A]? = some (.cells #[.int .i64 p] 3 (0, 0)) ∧ wx.heap[S]? = some (.cells #[.string s] 9 (0, 0)) ∧ wx.heap[w.heap.size]? = some Z4 ∧ wx.heap[w.heap.size + 1]? = some Z2 ∧ w.grownBy wx (some A)

theorem grown_below {w w1 : World} (h : Below w.heap.size w w1) (r : Option Nat) : w.grownBy w1 r := ⟨h.os, h.tape, h.output, h.size, fun k hk _ => h.block k hk⟩

theorem atRel_mk {s : ByteArray} {A S a p : Nat} {w w1 : World} (hA : w.heap[A]? = some (.cells #[.int .i64 a] 3 (0, 0))) (hS : w.heap[S]? = some (.cells #[.string s] 9 (0, 0)))
    (hb : Below ((w.alloc Z4).alloc Z2).heap.size ((w.alloc Z4).alloc Z2) w1) {v : Int} (hv : v = p) : AtRel s A S p w (w1.setCell ⟨A, 0, none⟩ (.int .i64 v)) := by
  subst hv
  have hlA := lt_of_block hA
  have hlS := lt_of_block hS
  have hne : A ≠ S := by intro e; subst e; rw [hA] at hS; simp at hS
  have e1 : ((w.alloc Z4).alloc Z2).heap[w.heap.size]? = some Z4 := by
    rw [Below.heap_alloc _ _ _ (by simp)]; exact heap_alloc_new w _
  have e2 : ((w.alloc Z4).alloc Z2).heap[w.heap.size + 1]? = some Z2 := by
    have := heap_alloc_new (w.alloc Z4) Z2
    simpa using this
  refine ⟨?_, ?_, ?_, ?_, ?_⟩
  · exact one_setCell (keep_one hb (by simp; omega) (two_more hA _ _))
  · rw [Below.heap_setCell _ _ _ _ (by show S ≠ A; omega)]; exact keep_one hb (by simp; omega) (two_more hS _ _)
  · rw [Below.heap_setCell _ _ _ _ (by show w.heap.size ≠ A; omega), hb.block _ (by simp; omega)]; exact e1
  · rw [Below.heap_setCell _ _ _ _ (by show w.heap.size + 1 ≠ A; omega), hb.block _ (by simp)]; exact e2
  · refine grown_trans (grown_below ?_ _) (grown_set _ _ _)
    exact (((Below.refl _ w).alloc (Nat.le_refl _) _).alloc (by simp) _).trans (hb.mono (by simp; omega))

theorem first_at (s : ByteArray) (p E K N M : Nat) (w : World) (hs : s.size ≤ 6000) (hp : p < s.size) (hF : Hid (Lx.firstL (s.data.toList.drop p) = (E, K, N, M))) :
    Calls Tryz.prog 65 #[.string (s.extract p s.size)] w fun e w' => e = .returned (.tuple #[.agg #[.int .i64 K, .string (s.extract p (p + N)), .int .i64 M, .int .i64 0], .int .i64 E]) ∧ Below w.heap.size w w' := by
  have hl := Lx.firstL_len hF.out
  have h := first_any (s.extract p s.size) w (by simp; omega) (by simp; omega) E K N M (by rw [extract_to_end]; exact hF.out)
  rw [extract_of_rest s p N (by simpa using hl)] at h
  exact h

/-- The place is p, and but for the place and new blocks all is as it was. -/
def GA (w : World) (A p : Nat) (X : World) : Prop := w.grownBy X (some A) ∧ X.heap[A]? = some (.cells #[.int .i64 p] 3 (0, 0))

theorem GA.alloc {w X : World} {A p : Nat} (h : GA w A p X) (o : Obj) : GA w A p (X.alloc o) :=
  ⟨grown_trans h.1 (World.grownBy_alloc _ _ _), by rw [Below.heap_alloc _ _ _ (lt_of_block h.2)]; exact h.2⟩
theorem GA.set {w X : World} {A p b o : Nat} (h : GA w A p X) (hA : A < w.heap.size) (hb : w.heap.size ≤ b) (v : Value) : GA w A p (X.setCell ⟨b, o, none⟩ v) :=
  ⟨⟨h.1.os, h.1.tape, h.1.output, by simpa [World.setCell] using h.1.size, fun k hk hne => (Below.heap_setCell _ _ _ _ (by show k ≠ b; omega)).trans (h.1.block k hk hne)⟩,
    by rw [Below.heap_setCell _ _ _ _ (by show A ≠ b; omega)]; exact h.2⟩
theorem GA.setA {w X : World} {A p q : Nat} (h : GA w A p X) {v : Int} (hv : v = q) : GA w A q (X.setCell ⟨A, 0, none⟩ (.int .i64 v)) := by
  subst hv; exact ⟨grown_trans h.1 (grown_set _ _ _), one_setCell h.2⟩
theorem GA.below {w X Y : World} {A p : Nat} (h : GA w A p X) (hb : Below X.heap.size X Y) : GA w A p Y :=
  ⟨grown_trans h.1 (grown_below hb _), (hb.block _ (lt_of_block h.2)).trans h.2⟩
theorem GA.drew {w X : World} {A p : Nat} (h : GA w A p X) : GA w A p X.drew := ⟨⟨h.1.os, h.1.tape, h.1.output, h.1.size, h.1.block⟩, h.2⟩
theorem AtRel.ga {s : ByteArray} {A S p : Nat} {w wx : World} (h : AtRel s A S p w wx) : GA w A p wx := ⟨h.2.2.2.2, h.1⟩

theorem wrap_in (x : Int) (h1 : -9223372036854775808 ≤ x) (h2 : x ≤ 9223372036854775807) : IntKind.i64.wrap x = x := IntWalk.i64_in x ⟨h1, h2⟩

theorem below_undrew {B : Nat} {W w1 : World} (h : Below B W.drew w1) : Below B W w1 := ⟨h.os, h.tape, h.output, h.size, h.block⟩

/-- What the closure answers where the next token begins at p, and the place behind. -/
def cutV (s : ByteArray) (p : Nat) : Value × Nat :=
  if s.size ≤ p then (.tuple #[.agg #[.int .i64 0, .string ⟨#[]⟩, .int .i64 0, .int .i64 0], .agg #[.int .i64 0, .int .i64 0]], p)
  else
    let F := Lx.firstL (s.data.toList.drop p)
    if F.1 = 0 then (.tuple #[.agg #[.int .i64 F.2.1, .string (s.extract p (p + F.2.2.1)), .int .i64 F.2.2.2, .int .i64 p], .agg #[.int .i64 0, .int .i64 0]], p + F.2.2.1)
    else (.tuple #[.agg #[.int .i64 0, .string ⟨#[]⟩, .int .i64 0, .int .i64 0], .agg #[.int .i64 F.1, .int .i64 p]], p)

theorem cutV_end {s : ByteArray} {p : Nat} (he : s.size ≤ p) : cutV s p = (.tuple #[.agg #[.int .i64 0, .string ⟨#[]⟩, .int .i64 0, .int .i64 0], .agg #[.int .i64 0, .int .i64 0]], p) := by unfold cutV; rw [if_pos he]
theorem cutV_tok {s : ByteArray} {p K N M : Nat} (he : ¬ s.size ≤ p) (hF : Lx.firstL (s.data.toList.drop p) = (0, K, N, M)) :
    cutV s p = (.tuple #[.agg #[.int .i64 K, .string (s.extract p (p + N)), .int .i64 M, .int .i64 p], .agg #[.int .i64 0, .int .i64 0]], p + N) := by
  unfold cutV; rw [if_neg he, hF]; rfl
theorem cutV_err {s : ByteArray} {p E K N M : Nat} (he : ¬ s.size ≤ p) (hF : Lx.firstL (s.data.toList.drop p) = (E, K, N, M)) (hE : ¬ E = 0) :
    cutV s p = (.tuple #[.agg #[.int .i64 0, .string ⟨#[]⟩, .int .i64 0, .int .i64 0], .agg #[.int .i64 E, .int .i64 p]], p) := by
  unfold cutV; rw [if_neg he, hF]; simp [hE]

set_option maxHeartbeats 2000000 in
theorem cut_any (s : ByteArray) (a g p A S : Nat) (w : World) (hs : s.size ≤ 6000) (hA : w.heap[A]? = some (.cells #[.int .i64 a] 3 (0, 0))) (hS : w.heap[S]? = some (.cells #[.string s] 9 (0, 0)))
    (HG : Hid (Lx.gapL false (s.data.toList.drop a) = g)) (hap : a ≤ p) (HP : Hid (a + g = p)) (hle : p ≤ s.size) :
    Calls Tryz.prog 63 #[.pointer (some ⟨A, 0, none⟩), .pointer (some ⟨S, 0, none⟩)] w fun e w' => e = .returned (cutV s p).1 ∧ GA w A (cutV s p).2 w' := by
  have hlA := lt_of_block hA
  have hlS := lt_of_block hS
  have hne : A ≠ S := by intro e; subst e; rw [hA] at hS; simp at hS
  have cA := cell_of_one hA
  have fA := free_of_one hA
  have cS := cell_of_one hS
  have fS := free_of_one hS
  have HA : Hid (w.heap[A]? = some (.cells #[.int .i64 a] 3 (0, 0))) := hA
  have HS : Hid (w.heap[S]? = some (.cells #[.string s] 9 (0, 0))) := hS
  have i1 : (0 : Int) ≤ (a : Int) := by omega
  have i2 : (a : Int) ≤ (s.size : Int) := by omega
  clear hA hS
  go_enter Tryz.func63, Tryz.ntmps63
  go_upto_region 1 with fail
  go_cut [] (fun wx => AtRel s A S p w wx)
  case first =>
    go_region_with (go_at_call 64; refine (gap_at s a g _ hs HG).mono ?_; rintro e w1 ⟨rfl, hb⟩; have cA1 := cell_of_one (keep_one hb (by simp; omega) (two_more HA.out _ _)); have fA1 := free_of_one (keep_one hb (by simp; omega) (two_more HA.out _ _)); have cS1 := cell_of_one (keep_one hb (by simp; omega) (two_more HS.out _ _)))
    all_goals
      go_wp2_with fail
      go_meet
      exact atRel_mk HA.out HS.out (below_undrew (by assumption)) (by have := HP.out; rw [wrap_in _ (by omega) (by omega)]; omega)
  case rest =>
    clear cA fA cS fS i1 i2 HA HS HG HP hap
    obtain ⟨a1, a2, a3, a4, a5⟩ := id hcut
    have HC : Hid (GA w A p wc) := hcut.ga
    have HR : Hid (AtRel s A S p w wc) := hcut
    have cA := cell_of_one a1
    have fA := free_of_one a1
    have cS := cell_of_one a2
    obtain ⟨r0, r1, r2, r3⟩ := four_cell a3
    obtain ⟨q0, q1, q2, q3⟩ := four_free a3
    obtain ⟨t0, t1, y0, y1⟩ := two_cell a4
    have hz : w.heap.size + 1 < wc.heap.size := lt_of_block a4
    clear hcut a1 a2 a3 a4 a5
    by_cases he : s.size ≤ p
    · have hb1 : ((p : Int) == (s.size : Int)) = true := by simp; omega
      have HV : Hid (cutV s p = (.tuple #[.agg #[.int .i64 0, .string ⟨#[]⟩, .int .i64 0, .int .i64 0], .agg #[.int .i64 0, .int .i64 0]], p)) := cutV_end he
      go_wp2
      refine bodyPost_ret (v := .tuple #[.agg #[.int .i64 0, .string ⟨#[]⟩, .int .i64 0, .int .i64 0], .agg #[.int .i64 0, .int .i64 0]]) (by simp [results, Tryz.results63, go_sem, r0, r1, r2, r3, t0, t1]) rfl ⟨by rw [HV.out], ?_⟩
      rw [HV.out]
      exact (((((HC.out.set hlA (Nat.le_refl _) _).set hlA (Nat.le_refl _) _).set hlA (Nat.le_refl _) _).set hlA (Nat.le_refl _) _).set hlA (Nat.le_succ _) _).set hlA (Nat.le_succ _) _
    · obtain ⟨E, K, N, M, hF⟩ : ∃ E K N M, Lx.firstL (s.data.toList.drop p) = (E, K, N, M) := ⟨_, _, _, _, rfl⟩
      have hb1 : ((p : Int) == (s.size : Int)) = false := by simp; omega
      have hlen : N ≤ s.size - p := by simpa using Lx.firstL_len hF
      have HF : Hid (Lx.firstL (s.data.toList.drop p) = (E, K, N, M)) := hF
      by_cases hE : E = 0
      · subst hE
        have HV : Hid (cutV s p = (.tuple #[.agg #[.int .i64 K, .string (s.extract p (p + N)), .int .i64 M, .int .i64 p], .agg #[.int .i64 0, .int .i64 0]], p + N)) := cutV_tok he hF
        clear hF
        go_wp2_with fail
        refine (first_at s p 0 K N M _ hs (by omega) HF).mono ?_
        rintro e w2 ⟨rfl, hb2⟩
        have kA := keep_one hb2 (by omega) HR.out.1
        have kR := (hb2.block w.heap.size (by omega)).trans HR.out.2.2.1
        have kZ := (hb2.block (w.heap.size + 1) (by omega)).trans HR.out.2.2.2.1
        have HG2 : Hid (GA w A p w2) := HC.out.below hb2
        have cA2 := cell_of_one kA
        have fA2 := free_of_one kA
        obtain ⟨rr0, rr1, rr2, rr3⟩ := four_cell kR
        obtain ⟨qq0, qq1, qq2, qq3⟩ := four_free kR
        obtain ⟨tt0, tt1, yy0, yy1⟩ := two_cell kZ
        have hz2 : w.heap.size + 1 < w2.heap.size := lt_of_block kZ
        have hz3 : w.heap.size < w2.heap.size := lt_of_block kR
        have hz4 : A < w2.heap.size := lt_of_block kA
        have hext : (s.extract p (p + N)).size = N := by simp; omega
        clear kA kR kZ hb2 cA fA cS r0 r1 r2 r3 q0 q1 q2 q3 t0 t1 y0 y1 hz
        go_wp2
        refine bodyPost_ret (v := .tuple #[.agg #[.int .i64 K, .string (s.extract p (p + N)), .int .i64 M, .int .i64 p], .agg #[.int .i64 0, .int .i64 0]]) (by simp [results, Tryz.results63, go_sem, rr0, rr1, rr2, rr3, tt0, tt1, hz2, hz3]) rfl ⟨by rw [HV.out], ?_⟩
        rw [HV.out]
        exact (((((((HG2.out.setA (q := p + N) (by omega)).set hlA (Nat.le_refl _) _).set hlA (Nat.le_refl _) _).set hlA (Nat.le_refl _) _).set hlA (Nat.le_refl _) _).set hlA (Nat.le_succ _) _).set hlA (Nat.le_succ _) _).alloc _
      · have HV : Hid (cutV s p = (.tuple #[.agg #[.int .i64 0, .string ⟨#[]⟩, .int .i64 0, .int .i64 0], .agg #[.int .i64 E, .int .i64 p]], p)) := cutV_err he hF hE
        have hE2 : ((E : Int) == 0) = false := by simp; omega
        have hE3 : ((E : Int) != 0) = true := by simp; omega
        clear hF
        go_wp2_with fail
        refine (first_at s p E K N M _ hs (by omega) HF).mono ?_
        rintro e w2 ⟨rfl, hb2⟩
        have kA := keep_one hb2 (by omega) HR.out.1
        have kR := (hb2.block w.heap.size (by omega)).trans HR.out.2.2.1
        have kZ := (hb2.block (w.heap.size + 1) (by omega)).trans HR.out.2.2.2.1
        have HG2 : Hid (GA w A p w2) := HC.out.below hb2
        have cA2 := cell_of_one kA
        have fA2 := free_of_one kA
        obtain ⟨rr0, rr1, rr2, rr3⟩ := four_cell kR
        obtain ⟨qq0, qq1, qq2, qq3⟩ := four_free kR
        obtain ⟨tt0, tt1, yy0, yy1⟩ := two_cell kZ
        have hz2 : w.heap.size + 1 < w2.heap.size := lt_of_block kZ
        have hz3 : w.heap.size < w2.heap.size := lt_of_block kR
        have hz4 : A < w2.heap.size := lt_of_block kA
        clear kA kR kZ hb2 cA fA cS r0 r1 r2 r3 q0 q1 q2 q3 t0 t1 y0 y1 hz
        go_wp2
        go_region
        all_goals
          go_wp2
          refine bodyPost_ret (v := .tuple #[.agg #[.int .i64 0, .string ⟨#[]⟩, .int .i64 0, .int .i64 0], .agg #[.int .i64 E, .int .i64 p]]) (by simp [results, Tryz.results63, go_sem, rr0, rr1, rr2, rr3, tt0, tt1, hz2, hz3]) rfl ⟨by rw [HV.out], ?_⟩
          rw [HV.out]
          exact (((((((HG2.out.set hlA (Nat.le_refl _) _).set hlA (Nat.le_refl _) _).set hlA (Nat.le_refl _) _).set hlA (Nat.le_refl _) _).set hlA (Nat.le_succ _) _).set hlA (Nat.le_succ _) _).alloc _).drew

end Go.Proofs.YtlnikpcoejpknaaGreatDoor

/- The tokens of a text, plainly. -/
namespace Go.Proofs.YtlnikpcoejpknaaGreatDoor
namespace Lx

/-- A token. -/
structure Tk where
  kind : Nat
  text : ByteArray
  num : Nat
  pos : Nat

/-- Its cells. -/
def Tk.cells (t : Tk) : List Value := [.int .i64 t.kind, .string t.text, .int .i64 t.num, .int .i64 t.pos]

/-- The cells of several tokens. -/
def cellsOf (l : List Tk) : List Value := l.flatMap Tk.cells

theorem cellsOf_length (l : List Tk) : (cellsOf l).length = l.length * 4 := by
  induction l with
  | nil => rfl
  | cons t l ih => simp only [cellsOf, List.flatMap_cons, List.length_append] at ih ⊢; rw [ih]; simp [Tk.cells]; omega

theorem cellsOf_snoc (l : List Tk) (t : Tk) : cellsOf (l ++ [t]) = cellsOf l ++ t.cells := by simp [cellsOf]

/-- Where the next token begins, behind place a. -/
def place (s : ByteArray) (a : Nat) : Nat := a + gapL false (s.data.toList.drop a)

theorem place_le (s : ByteArray) (a : Nat) (h : a ≤ s.size) : place s a ≤ s.size := by
  have := gapL_le false (s.data.toList.drop a)
  simp at this
  have e : s.data.size = s.size := rfl
  unfold place; omega

/-- The tokens from place a on, and what is wrong: fuel f. -/
def lexFrom : Nat → ByteArray → Nat → List Tk × Nat × Nat
  | 0, _, _ => ([], 0, 0)
  | f + 1, s, a =>
    if s.size ≤ place s a then ([], 0, 0)
    else if (firstL (s.data.toList.drop (place s a))).1 = 0 then
      (⟨(firstL (s.data.toList.drop (place s a))).2.1, s.extract (place s a) (place s a + (firstL (s.data.toList.drop (place s a))).2.2.1), (firstL (s.data.toList.drop (place s a))).2.2.2, place s a⟩ ::
        (lexFrom f s (place s a + (firstL (s.data.toList.drop (place s a))).2.2.1)).1,
       (lexFrom f s (place s a + (firstL (s.data.toList.drop (place s a))).2.2.1)).2)
    else ([], (firstL (s.data.toList.drop (place s a))).1, place s a)

theorem lexFrom_end {f : Nat} {s : ByteArray} {a p : Nat} (hp : place s a = p) (he : s.size ≤ p) : lexFrom (f + 1) s a = ([], 0, 0) := by
  rw [lexFrom, hp, if_pos he]
theorem lexFrom_tok {f : Nat} {s : ByteArray} {a p K N M : Nat} (hp : place s a = p) (he : ¬ s.size ≤ p) (hF : firstL (s.data.toList.drop p) = (0, K, N, M)) :
    lexFrom (f + 1) s a = (⟨K, s.extract p (p + N), M, p⟩ :: (lexFrom f s (p + N)).1, (lexFrom f s (p + N)).2) := by
  rw [lexFrom, hp, if_neg he, hF]; rfl
theorem lexFrom_err {f : Nat} {s : ByteArray} {a p E K N M : Nat} (hp : place s a = p) (he : ¬ s.size ≤ p) (hF : firstL (s.data.toList.drop p) = (E, K, N, M)) (hE : ¬ E = 0) :
    lexFrom (f + 1) s a = ([], E, p) := by
  rw [lexFrom, hp, if_neg he, hF]; simp [hE]

/-- What Tokens answers. -/
def lexB (s : ByteArray) : List Tk × Nat × Nat :=
  if 6000 < s.size then ([], 4, 0)
  else if (lexFrom (s.size + 1) s 0).2.1 = 0 then lexFrom (s.size + 1) s 0 else ([], (lexFrom (s.size + 1) s 0).2)

end Lx
end Go.Proofs.YtlnikpcoejpknaaGreatDoor

