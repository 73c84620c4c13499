/- The walks of set, do and words. -/
import Derived.Test.YtnoecaapmcidhaaSt3
namespace Go.Proofs.Ytnoecaapmcidhaa
open Go.RowKit

set_option maxHeartbeats 400000 in
theorem set_bad (S g : Nat) (ws : List Int) (r mn most : Nat) (n v : Int) (w : World) (h : Hid (SK w S g ws r mn most)) (hn : n < 0 ∨ (ws.length : Int) ≤ n) :
    Calls Try.prog 26 #[.pointer (some ⟨S, 0, none⟩), .int .i64 n, .int .i64 v] w fun e w' => e = .returned (.int .i64 3) ∧ Mv w w' S g := by
  obtain ⟨c0, c1, c2, c3⟩ := h.out.cells
  by_cases hz : n < 0
  · go_enter Try.func26, Try.ntmps26
    go_wp2
    go_ret
    exact ⟨rfl, Mv.refl _ _ _⟩
  · have hz2 : (ws.length : Int) ≤ n := by omega
    clear hn
    go_enter Try.func26, Try.ntmps26
    go_wp2
    go_ret
    exact ⟨rfl, Mv.refl _ _ _⟩

set_option maxHeartbeats 400000 in
theorem set_good (S g : Nat) (ws : List Int) (r mn most k : Nat) (v : Int) (w : World) (h : Hid (SK w S g ws r mn most)) (hk : k < ws.length) :
    Calls Try.prog 26 #[.pointer (some ⟨S, 0, none⟩), .int .i64 k, .int .i64 v] w fun e w' => e = .returned (.int .i64 0) ∧ SK w' S g (ws.set k v) r mn most ∧ Mv w w' S g := by
  obtain ⟨c0, c1, c2, c3⟩ := h.out.cells
  have hfit := h.out.2.2
  unfold Sk.Fits at hfit
  obtain ⟨h3, h4, h5, h6, h7⟩ := hfit
  obtain ⟨u, cu, fu⟩ := h.out.2.1.at k (by omega)
  have hne : ¬ g = S := fun e => h.out.ne e.symm
  have n0 : (0 : Int) ≤ (k : Int) := by omega
  have n1 : (k : Int) < (ws.length : Int) := by omega
  have n2 : (k : Int) < (r : Int) := by omega
  go_enter Try.func26, Try.ntmps26
  go_wp2
  go_ret
  refine ⟨rfl, ⟨?_, h.out.2.1.put k v, ?_⟩, (Mv.refl w S g).set (.inr (.inl rfl)) _⟩
  · rw [List.length_set]; exact (Below.heap_setCell _ _ _ _ (fun e => hne e.symm)).trans h.out.1
  · rw [List.length_set]; exact h.out.2.2

/-- What a doing leaves. -/
def Did (w w' : World) (S g mn most E : Nat) (ws : List Int) (r : Nat) : Prop := (E = 0 → ∃ g', SK w' S g' ws r mn most ∧ (g' = g ∨ w.heap.size ≤ g')) ∧ Mv w w' S g

theorem Sk.err1 (most c : Nat) (o : Sk.Op) (h : o.kind = 1) : Sk.err most c o = if c = most then 4 else 0 := by unfold Sk.err; rw [if_pos h]
theorem Sk.err2 (most c : Nat) (o : Sk.Op) (h : o.kind = 2) : Sk.err most c o = if o.n < 0 ∨ (c : Int) < o.n then 3 else 0 := by unfold Sk.err; rw [if_neg (by omega), if_pos h]
theorem Sk.err3 (most c : Nat) (o : Sk.Op) (h : o.kind = 3) : Sk.err most c o = if o.n < 0 ∨ (c : Int) ≤ o.n then 3 else 0 := by unfold Sk.err; rw [if_neg (by omega), if_neg (by omega), if_pos h]
theorem Sk.err0 (most c : Nat) (o : Sk.Op) (h1 : o.kind ≠ 1) (h2 : o.kind ≠ 2) (h3 : o.kind ≠ 3) : Sk.err most c o = 1 := by unfold Sk.err; rw [if_neg h1, if_neg h2, if_neg h3]

theorem push_any (S g : Nat) (ws : List Int) (r mn most : Nat) (o : Sk.Op) (w : World) (h : Hid (SK w S g ws r mn most)) (ho : o.kind = 1) :
    Calls Try.prog 24 #[.pointer (some ⟨S, 0, none⟩), .int .i64 o.v] w fun e w' => e = .returned (.int .i64 (Sk.err most ws.length o : Nat)) ∧ Did w w' S g mn most (Sk.err most ws.length o) (Sk.wds ws o) (Sk.rm mn most r ws.length o) := by
  rw [Sk.err1 _ _ _ ho]
  have hfit := h.out.2.2
  have hS := lt_of_block h.out.1
  by_cases hm : ws.length = most
  · rw [if_pos hm]
    refine (push_full S g ws r mn most o.v w h hm).mono ?_
    rintro e w' ⟨rfl, hM⟩
    exact ⟨rfl, fun h => by omega, hM⟩
  · rw [if_neg hm]
    have he : Sk.err most ws.length o = 0 := by rw [Sk.err1 _ _ _ ho, if_neg hm]
    have hf2 := Sk.fits_next hfit he
    have ew : Sk.wds ws o = ws ++ [o.v] := by unfold Sk.wds; rw [if_pos ho]
    have er : Sk.rm mn most r ws.length o = if ws.length = r then min (2 * r) most else r := by unfold Sk.rm; rw [if_pos ho]
    rw [ew, er] at hf2
    rw [ew, er]
    unfold Sk.Fits at hfit
    by_cases hr : ws.length = r
    · rw [if_pos hr] at hf2 ⊢
      refine (push_grow S g ws r (min (2 * r) most) mn most o.v w h hr (by omega) rfl).mono ?_
      rintro e w' ⟨rfl, hS', hC, hM⟩
      exact ⟨rfl, fun _ => ⟨w.heap.size, ⟨by simpa using hS', hC, hf2⟩, .inr (Nat.le_refl _)⟩, hM⟩
    · rw [if_neg hr] at hf2 ⊢
      refine (push_room S g ws r mn most o.v w h (by omega)).mono ?_
      rintro e w' ⟨rfl, hS', hC, hM⟩
      exact ⟨rfl, fun _ => ⟨g, ⟨by simpa using hS', hC, hf2⟩, .inl rfl⟩, hM⟩

theorem pop_any (S g : Nat) (ws : List Int) (r mn most : Nat) (o : Sk.Op) (w : World) (h : Hid (SK w S g ws r mn most)) (ho : o.kind = 2) :
    Calls Try.prog 25 #[.pointer (some ⟨S, 0, none⟩), .int .i64 o.n] w fun e w' => e = .returned (.int .i64 (Sk.err most ws.length o : Nat)) ∧ Did w w' S g mn most (Sk.err most ws.length o) (Sk.wds ws o) (Sk.rm mn most r ws.length o) := by
  rw [Sk.err2 _ _ _ ho]
  by_cases hm : o.n < 0 ∨ (ws.length : Int) < o.n
  · rw [if_pos hm]
    refine (pop_bad S g ws r mn most o.n w h hm).mono ?_
    rintro e w' ⟨rfl, hM⟩
    exact ⟨rfl, fun h => by omega, hM⟩
  · rw [if_neg hm]
    obtain ⟨k, hk⟩ : ∃ k : Nat, o.n = k := ⟨o.n.toNat, by omega⟩
    have ew : Sk.wds ws o = ws.take (ws.length - k) := by unfold Sk.wds; rw [if_neg (by omega), if_pos ho, hk]; rfl
    have er : Sk.rm mn most r ws.length o = if ws.length - k ≤ r / 4 ∧ mn < r then max (r / 2) mn else r := by unfold Sk.rm; rw [if_neg (by omega), if_pos ho, hk]; rfl
    rw [ew, er, hk]
    by_cases hc : ws.length - k ≤ r / 4 ∧ mn < r
    · rw [if_pos hc]
      refine (pop_move S g ws r (max (r / 2) mn) mn most k w h (by omega) hc.1 hc.2 rfl).mono ?_
      rintro e w' ⟨rfl, hS', hM⟩
      exact ⟨rfl, fun _ => ⟨w.heap.size, hS', .inr (Nat.le_refl _)⟩, hM⟩
    · rw [if_neg hc]
      refine (pop_keep S g ws r mn most k w h (by omega) hc).mono ?_
      rintro e w' ⟨rfl, hS', hM⟩
      exact ⟨rfl, fun _ => ⟨g, hS', .inl rfl⟩, hM⟩

theorem set_any (S g : Nat) (ws : List Int) (r mn most : Nat) (o : Sk.Op) (w : World) (h : Hid (SK w S g ws r mn most)) (ho : o.kind = 3) :
    Calls Try.prog 26 #[.pointer (some ⟨S, 0, none⟩), .int .i64 o.n, .int .i64 o.v] w fun e w' => e = .returned (.int .i64 (Sk.err most ws.length o : Nat)) ∧ Did w w' S g mn most (Sk.err most ws.length o) (Sk.wds ws o) (Sk.rm mn most r ws.length o) := by
  rw [Sk.err3 _ _ _ ho]
  by_cases hm : o.n < 0 ∨ (ws.length : Int) ≤ o.n
  · rw [if_pos hm]
    refine (set_bad S g ws r mn most o.n o.v w h hm).mono ?_
    rintro e w' ⟨rfl, hM⟩
    exact ⟨rfl, fun h => by omega, hM⟩
  · rw [if_neg hm]
    obtain ⟨k, hk⟩ : ∃ k : Nat, o.n = k := ⟨o.n.toNat, by omega⟩
    have ew : Sk.wds ws o = ws.set k o.v := by unfold Sk.wds; rw [if_neg (by omega), if_neg (by omega), if_pos ho, hk]; rfl
    have er : Sk.rm mn most r ws.length o = r := by unfold Sk.rm; rw [if_neg (by omega), if_neg (by omega)]
    rw [ew, er, hk]
    refine (set_good S g ws r mn most k o.v w h (by omega)).mono ?_
    rintro e w' ⟨rfl, hS', hM⟩
    exact ⟨rfl, fun _ => ⟨g, hS', .inl rfl⟩, hM⟩

theorem SK.alloc {w : World} {S g : Nat} {ws : List Int} {r mn most : Nat} (h : SK w S g ws r mn most) (o : Obj) : SK (w.alloc o) S g ws r mn most := by
  obtain ⟨cs, hc, hr⟩ := h.2.1
  exact ⟨(Below.heap_alloc _ _ _ (lt_of_block h.1)).trans h.1, ⟨cs, (Below.heap_alloc _ _ _ (lt_of_block hc)).trans hc, hr⟩, h.2.2⟩

theorem did_on {w w' : World} {S g mn most E : Nat} {ws : List Int} {r : Nat} {o : Obj} (h : Did (w.alloc o) w' S g mn most E ws r) : Did w w' S g mn most E ws r :=
  ⟨fun e => by
    obtain ⟨g', h1, h2⟩ := h.1 e
    exact ⟨g', h1, h2.imp id (fun h => by simp at h; omega)⟩,
   ⟨h.2.os, h.2.tape, h.2.output, by have := h.2.size; simp at this; omega, fun k hk h1 h2 => (h.2.block k (by simp; omega) h1 h2).trans (Below.heap_alloc _ _ _ hk)⟩⟩

set_option maxHeartbeats 400000 in
theorem do_any (S g : Nat) (ws : List Int) (r mn most : Nat) (o : Sk.Op) (E : Nat) (ws' : List Int) (r' : Nat) (w : World) (h : Hid (SK w S g ws r mn most)) (hE : Hid (E = Sk.err most ws.length o)) (hw : Hid (ws' = Sk.wds ws o)) (hr : Hid (r' = Sk.rm mn most r ws.length o)) :
    Calls Try.prog 18 #[.pointer (some ⟨S, 0, none⟩), .agg #[.int .i64 o.kind, .int .i64 o.n, .int .i64 o.v]] w fun e w' => e = .returned (.int .i64 E) ∧ Did w w' S g mn most E ws' r' := by
  by_cases h1 : o.kind = 1
  · have H1 := hide h1
    have e1 : (o.kind == 1) = true := by simp [h1]
    clear h1
    go_enter Try.func18, Try.ntmps18
    go_wp2_with fail
    refine (push_any S g ws r mn most o _ (h.out.alloc _) H1.out).mono ?_
    rintro e w1 ⟨rfl, hd⟩
    rw [← hE.out, ← hw.out, ← hr.out] at hd
    rw [← hE.out]
    go_wp2
    go_ret
    exact ⟨rfl, did_on hd⟩
  · have e1 : (o.kind == 1) = false := by simp [h1]
    by_cases h2 : o.kind = 2
    · have H2 := hide h2
      have e2 : (o.kind == 2) = true := by simp [h2]
      clear h1 h2
      go_enter Try.func18, Try.ntmps18
      go_wp2_with fail
      refine (pop_any S g ws r mn most o _ (h.out.alloc _) H2.out).mono ?_
      rintro e w1 ⟨rfl, hd⟩
      rw [← hE.out, ← hw.out, ← hr.out] at hd
      rw [← hE.out]
      go_wp2
      go_ret
      exact ⟨rfl, did_on hd⟩
    · have e2 : (o.kind == 2) = false := by simp [h2]
      by_cases h3 : o.kind = 3
      · have H3 := hide h3
        have e3 : (o.kind == 3) = true := by simp [h3]
        clear h1 h2 h3
        go_enter Try.func18, Try.ntmps18
        go_wp2_with fail
        refine (set_any S g ws r mn most o _ (h.out.alloc _) H3.out).mono ?_
        rintro e w1 ⟨rfl, hd⟩
        rw [← hE.out, ← hw.out, ← hr.out] at hd
        rw [← hE.out]
        go_wp2
        go_ret
        exact ⟨rfl, did_on hd⟩
      · have e3 : (o.kind == 3) = false := by simp [h3]
        have HE : Hid (E = 1) := by have := hE.out; rw [Sk.err0 _ _ _ h1 h2 h3] at this; exact this
        clear h1 h2 h3
        go_enter Try.func18, Try.ntmps18
        go_wp2
        go_ret
        exact ⟨by rw [HE.out]; rfl, fun h => by have := HE.out; omega, (Mv.refl _ _ _).alloc _⟩

end Go.Proofs.Ytnoecaapmcidhaa
