/- The walks of do and words. -/
import Derived.Test.YtbpebecfnbdckaaMl1
namespace Go.Proofs.Ytbpebecfnbdckaa.Mb
open Go.RowKit

theorem BX.lt {w : World} {S g : Nat} {ws : List Int} {f n : Nat} (h : BX w S g ws f n) : S < w.heap.size ∧ g < w.heap.size := by
  obtain ⟨cs, hc, _⟩ := h.row
  exact ⟨lt_of_block h.blk, lt_of_block hc⟩

theorem mv_in {w w' : World} {S g : Nat} {o p : Obj} (h : Mv ((w.alloc o).alloc p) w' S g) (hS : S < w.heap.size) (hg : g < w.heap.size) : Mv w w' S g ∧ w'.heap[w.heap.size + 1]? = some p ∧ w'.heap[w.heap.size]? = some o := by
  have hz := h.size
  simp at hz
  refine ⟨⟨h.os, h.tape, h.output, by omega, fun k hk h1 h2 => ?_⟩, ?_, ?_⟩
  · rw [h.block k (by simp; omega) h1 h2, Below.heap_alloc _ _ _ (by simp; omega), Below.heap_alloc _ _ _ hk]
  · rw [h.block _ (by simp) (by omega) (by omega)]
    have := heap_alloc_new (w.alloc o) p
    simpa using this
  · rw [h.block _ (by simp; omega) (by omega) (by omega), Below.heap_alloc _ _ _ (by simp)]
    exact heap_alloc_new w o

abbrev Zg : Obj := .cells #[.bool false, .int .i64 0] 30 (0, 0)
abbrev opO (o : Ml.Op) : Obj := .cells #[.bool o.put, .int .i64 o.v] 34

theorem zg_cells {w : World} {N : Nat} (h : w.heap[N]? = some Zg) : w.cell? ⟨N, 0, none⟩ = some (.bool false) ∧ w.cell? ⟨N, 1, none⟩ = some (.int .i64 0) ∧ w.frozen? ⟨N, 0, none⟩ = false ∧ w.frozen? ⟨N, 1, none⟩ = false := by
  simp [World.cell?, World.frozen?, h]

theorem BX.set {w : World} {S g : Nat} {ws : List Int} {f n : Nat} (h : BX w S g ws f n) {a : Addr} (h1 : a.block ≠ S) (h2 : a.block ≠ g) (u : Value) : BX (w.setCell a u) S g ws f n :=
  ⟨(Below.heap_setCell _ _ _ _ (fun e => h1 e.symm)).trans h.blk, RK.far (Below.heap_setCell _ _ _ _ (fun e => h2 e.symm)) h.row, h.few, h.at', h.most⟩

set_option maxHeartbeats 400000 in
theorem do_put_yes (S g : Nat) (ws : List Int) (f n : Nat) (v : Int) (w : World) (h : Hid (BX w S g ws f n)) (hf : ws.length < n) :
    Calls Try.prog 11 #[.pointer (some ⟨S, 0, none⟩), .agg #[.bool true, .int .i64 v]] w fun e w' => e = .returned (.agg #[.bool true, .int .i64 0]) ∧ BX w' S g (ws ++ [v]) f n ∧ Mv w w' S g := by
  obtain ⟨hS, hg⟩ := h.out.lt
  have H1 := hide ((h.out.alloc (.cells #[.bool true, .int .i64 v] 34)).alloc Zg)
  go_enter Try.func11, Try.ntmps11
  go_wp2_with fail
  refine (full_any S g ws f n _ H1 false (hide (by simp; omega))).mono ?_
  rintro e w1 ⟨rfl, d, rfl⟩
  go_wp2_with fail
  refine (put_room S g ws f n v _ (hide (H1.out.drewN d)) hf).mono ?_
  rintro e w1 ⟨rfl, hb, hm⟩
  obtain ⟨hm1, hz, _⟩ := mv_in (w := w) (o := .cells #[.bool true, .int .i64 v] 34) (p := Zg) (Mv.mk hm.os hm.tape hm.output hm.size hm.block) hS hg
  obtain ⟨z0, z1, y0, y1⟩ := zg_cells hz
  have HB := hide hb
  have HM := hide hm1
  have hlt := lt_of_block hz
  clear hb hm hm1 hz
  go_wp2
  refine bodyPost_ret (v := .agg #[.bool true, .int .i64 0]) (by simp [results, Try.results11, go_sem, z0, z1]) rfl ?_
  exact ⟨rfl, (HB.out.set (a := ⟨w.heap.size + 1, 0, none⟩) (by show w.heap.size + 1 ≠ S; omega) (by show w.heap.size + 1 ≠ g; omega) _).set (a := ⟨w.heap.size + 1, 1, none⟩) (by show w.heap.size + 1 ≠ S; omega) (by show w.heap.size + 1 ≠ g; omega) _, (HM.out.set (a := ⟨w.heap.size + 1, 0, none⟩) (.inr (.inr (Nat.le_succ _))) _).set (a := ⟨w.heap.size + 1, 1, none⟩) (.inr (.inr (Nat.le_succ _))) _⟩

set_option maxHeartbeats 400000 in
theorem do_put_no (S g : Nat) (ws : List Int) (f n : Nat) (v : Int) (w : World) (h : Hid (BX w S g ws f n)) (hf : Hid (ws.length = n)) :
    Calls Try.prog 11 #[.pointer (some ⟨S, 0, none⟩), .agg #[.bool true, .int .i64 v]] w fun e w' => e = .returned (.agg #[.bool false, .int .i64 0]) ∧ BX w' S g ws f n ∧ Mv w w' S g := by
  obtain ⟨hS, hg⟩ := h.out.lt
  have H1 := hide ((h.out.alloc (.cells #[.bool true, .int .i64 v] 34)).alloc Zg)
  go_enter Try.func11, Try.ntmps11
  go_wp2_with fail
  refine (full_any S g ws f n _ H1 true (hide (by have := hf.out; simp [this]))).mono ?_
  rintro e w1 ⟨rfl, d, rfl⟩
  go_wp2
  refine bodyPost_ret (v := .agg #[.bool false, .int .i64 0]) (by simp [results, Try.results11, go_sem]) rfl ?_
  exact ⟨rfl, ((H1.out.drewN d).set (a := ⟨w.heap.size + 1, 0, none⟩) (by show w.heap.size + 1 ≠ S; omega) (by show w.heap.size + 1 ≠ g; omega) _).set (a := ⟨w.heap.size + 1, 1, none⟩) (by show w.heap.size + 1 ≠ S; omega) (by show w.heap.size + 1 ≠ g; omega) _, (((((Mv.refl w S g).alloc _).alloc _).drewN _).set (a := ⟨w.heap.size + 1, 0, none⟩) (.inr (.inr (Nat.le_succ _))) _).set (a := ⟨w.heap.size + 1, 1, none⟩) (.inr (.inr (Nat.le_succ _))) _⟩

set_option maxHeartbeats 400000 in
theorem do_take_no (S g : Nat) (ws : List Int) (f n : Nat) (v : Int) (w : World) (h : Hid (BX w S g ws f n)) (hf : Hid (ws = [])) :
    Calls Try.prog 11 #[.pointer (some ⟨S, 0, none⟩), .agg #[.bool false, .int .i64 v]] w fun e w' => e = .returned (.agg #[.bool false, .int .i64 0]) ∧ BX w' S g ws f n ∧ Mv w w' S g := by
  obtain ⟨hS, hg⟩ := h.out.lt
  have H1 := hide ((h.out.alloc (.cells #[.bool false, .int .i64 v] 34)).alloc Zg)
  go_enter Try.func11, Try.ntmps11
  go_wp2_with fail
  refine (empty_any S g ws f n _ H1 true (hide (by have := hf.out; simp [this]))).mono ?_
  rintro e w1 ⟨rfl, rfl⟩
  go_wp2
  refine bodyPost_ret (v := .agg #[.bool false, .int .i64 0]) (by simp [results, Try.results11, go_sem]) rfl ?_
  exact ⟨rfl, H1.out, ((Mv.refl w S g).alloc _).alloc _⟩

set_option maxHeartbeats 400000 in
theorem do_take_yes (S g : Nat) (ws : List Int) (x : Int) (f n : Nat) (v : Int) (w : World) (h : Hid (BX w S g ws f n)) (hx : Hid (ws[0]? = some x)) :
    Calls Try.prog 11 #[.pointer (some ⟨S, 0, none⟩), .agg #[.bool false, .int .i64 v]] w fun e w' => e = .returned (.agg #[.bool true, .int .i64 x]) ∧ BX w' S g ws.tail ((f + 1) % n) n ∧ Mv w w' S g := by
  obtain ⟨hS, hg⟩ := h.out.lt
  have hl : 0 < ws.length := (List.getElem?_eq_some_iff.1 hx.out).1
  have H1 := hide ((h.out.alloc (.cells #[.bool false, .int .i64 v] 34)).alloc Zg)
  go_enter Try.func11, Try.ntmps11
  go_wp2_with fail
  refine (empty_any S g ws f n _ H1 false (hide (by simp; intro e; rw [e] at hl; simp at hl))).mono ?_
  rintro e w1 ⟨rfl, rfl⟩
  go_wp2_with fail
  refine (take_some S g ws x f n _ H1 hx).mono ?_
  rintro e w1 ⟨rfl, hb, hm⟩
  obtain ⟨hm1, hz, _⟩ := mv_in (w := w) (o := .cells #[.bool false, .int .i64 v] 34) (p := Zg) hm hS hg
  obtain ⟨z0, z1, y0, y1⟩ := zg_cells hz
  have HB := hide hb
  have HM := hide hm1
  have hlt := lt_of_block hz
  clear hb hm hm1 hz
  go_wp2
  refine bodyPost_ret (v := .agg #[.bool true, .int .i64 x]) (by simp [results, Try.results11, go_sem, z0, z1]) rfl ?_
  exact ⟨rfl, (HB.out.set (a := ⟨w.heap.size + 1, 0, none⟩) (by show w.heap.size + 1 ≠ S; omega) (by show w.heap.size + 1 ≠ g; omega) _).set (a := ⟨w.heap.size + 1, 1, none⟩) (by show w.heap.size + 1 ≠ S; omega) (by show w.heap.size + 1 ≠ g; omega) _, (HM.out.set (a := ⟨w.heap.size + 1, 0, none⟩) (.inr (.inr (Nat.le_succ _))) _).set (a := ⟨w.heap.size + 1, 1, none⟩) (.inr (.inr (Nat.le_succ _))) _⟩

theorem do_any (S g : Nat) (ws : List Int) (f n : Nat) (o : Ml.Op) (w : World) (h : Hid (BX w S g ws f n)) (G : Ml.Got) (hG : Hid (G = Ml.got n ws o)) (ws' : List Int) (hw : Hid (ws' = Ml.wds n ws o)) :
    Calls Try.prog 11 #[.pointer (some ⟨S, 0, none⟩), .agg #[.bool o.put, .int .i64 o.v]] w fun e w' => e = .returned (.agg #[.bool G.ok, .int .i64 G.v]) ∧ (∃ f', BX w' S g ws' f' n) ∧ Mv w w' S g := by
  have eg := hG.out
  have ew := hw.out
  unfold Ml.got at eg
  unfold Ml.wds at ew
  have hl := h.out.few
  cases hp : o.put with
  | true =>
    rw [if_pos hp] at eg ew
    by_cases hf : ws.length < n
    · rw [if_pos hf] at ew
      subst ew eg
      refine (do_put_yes S g ws f n o.v w h hf).mono ?_
      rintro e w' ⟨rfl, hb, hm⟩
      exact ⟨by simp [hf], ⟨f, hb⟩, hm⟩
    · rw [if_neg hf] at ew
      subst ew eg
      refine (do_put_no S g ws' f n o.v w h (hide (by omega))).mono ?_
      rintro e w' ⟨rfl, hb, hm⟩
      exact ⟨by simp [hf], ⟨f, hb⟩, hm⟩
  | false =>
    rw [if_neg (by simp [hp])] at eg ew
    cases hws : ws with
    | nil =>
      rw [hws] at eg ew
      subst ew eg
      refine (do_take_no S g ws f n o.v w h (hide hws)).mono ?_
      rintro e w' ⟨rfl, hb, hm⟩
      exact ⟨rfl, ⟨f, by rw [hws] at hb; exact hb⟩, hm⟩
    | cons x xs =>
      rw [hws] at eg ew
      subst ew eg
      refine (do_take_yes S g ws x f n o.v w h (hide (by rw [hws]; rfl))).mono ?_
      rintro e w' ⟨rfl, hb, hm⟩
      rw [hws] at hb
      exact ⟨rfl, ⟨_, hb⟩, hm⟩

end Go.Proofs.Ytbpebecfnbdckaa.Mb
