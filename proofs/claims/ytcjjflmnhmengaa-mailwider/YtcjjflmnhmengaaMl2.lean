/- The walks of do and words. -/
import Derived.Test.YtcjjflmnhmengaaMl1
namespace Go.Proofs.Ytcjjflmnhmengaa
open Go.RowKit

theorem BX.lt {w : World} {S g : Nat} {ws : List Int} {f n : Nat} (h : BX w S g ws f n) : S < w.heap.size ∧ g < w.heap.size := by
  obtain ⟨cs, hc, _⟩ := h.row
  exact ⟨lt_of_block h.blk, lt_of_block hc⟩

theorem mv_in {w w' : World} {S g : Nat} {o p : Obj} (h : Mv ((w.alloc o).alloc p) w' S g) (hS : S < w.heap.size) (hg : g < w.heap.size) : Mv w w' S g ∧ w'.heap[w.heap.size + 1]? = some p ∧ w'.heap[w.heap.size]? = some o := by
  have hz := h.size
  simp at hz
  refine ⟨⟨h.os, h.tape, h.output, by omega, fun k hk h1 h2 => ?_⟩, ?_, ?_⟩
  · rw [h.block k (by simp; omega) h1 h2, Below.heap_alloc _ _ _ (by simp; omega), Below.heap_alloc _ _ _ hk]
  · rw [h.block _ (by simp) (by omega) (by omega)]
    have := heap_alloc_new (w.alloc o) p
    simpa using this
  · rw [h.block _ (by simp; omega) (by omega) (by omega), Below.heap_alloc _ _ _ (by simp)]
    exact heap_alloc_new w o

/-- What a doing answers, and what it leaves. -/
theorem put_any (S g : Nat) (ws : List Int) (f n : Nat) (o : Ml.Op) (hp : o.put = true) (w : World) (h : Hid (BX w S g ws f n)) (G : Ml.Got) (hG : Hid (G = Ml.got n ws o)) (ws' : List Int) (hw : Hid (ws' = Ml.wds n ws o)) :
    Calls Try.prog 12 #[.pointer (some ⟨S, 0, none⟩), .int .i64 o.v] w fun e w' => e = .returned (.bool G.ok) ∧ G.v = 0 ∧ (∃ f', BX w' S g ws' f' n) ∧ Mv w w' S g := by
  have eg := hG.out
  have ew := hw.out
  unfold Ml.got at eg
  unfold Ml.wds at ew
  rw [if_pos hp] at eg ew
  have hl := h.out.few
  by_cases hf : ws.length < n
  · rw [if_pos hf] at ew
    subst ew eg
    refine (put_room S g ws f n o.v w h hf).mono ?_
    rintro e w' ⟨rfl, hb, hm⟩
    exact ⟨by simp [hf], rfl, ⟨f, hb⟩, hm⟩
  · rw [if_neg hf] at ew
    subst ew eg
    refine (put_full S g ws' f n o.v w h (hide (by omega))).mono ?_
    rintro e w' ⟨rfl, hb, hm⟩
    exact ⟨by simp [hf], rfl, ⟨f, hb⟩, hm⟩

theorem take_any (S g : Nat) (ws : List Int) (f n : Nat) (o : Ml.Op) (hp : o.put = false) (w : World) (h : Hid (BX w S g ws f n)) (G : Ml.Got) (hG : Hid (G = Ml.got n ws o)) (ws' : List Int) (hw : Hid (ws' = Ml.wds n ws o)) :
    Calls Try.prog 13 #[.pointer (some ⟨S, 0, none⟩)] w fun e w' => e = .returned (.tuple #[.int .i64 G.v, .bool G.ok]) ∧ (∃ f', BX w' S g ws' f' n) ∧ Mv w w' S g := by
  have eg := hG.out
  have ew := hw.out
  unfold Ml.got at eg
  unfold Ml.wds at ew
  rw [if_neg (by simp [hp])] at eg ew
  cases hws : ws with
  | nil =>
    rw [hws] at eg ew
    subst ew eg
    refine (take_none S g ws f n w h (hide hws)).mono ?_
    rintro e w' ⟨rfl, rfl⟩
    exact ⟨rfl, ⟨f, by have := h.out; rw [hws] at this; exact this⟩, Mv.refl _ _ _⟩
  | cons x xs =>
    rw [hws] at eg ew
    subst ew eg
    refine (take_some S g ws x f n w h (hide (by rw [hws]; rfl))).mono ?_
    rintro e w' ⟨rfl, hb, hm⟩
    rw [hws] at hb
    exact ⟨rfl, ⟨_, hb⟩, hm⟩

abbrev Zg : Obj := .cells #[.bool false, .int .i64 0] 30 (0, 0)
abbrev opO (o : Ml.Op) : Obj := .cells #[.bool o.put, .int .i64 o.v] 34

theorem zg_cells {w : World} {N : Nat} (h : w.heap[N]? = some Zg) : w.cell? ⟨N, 0, none⟩ = some (.bool false) ∧ w.cell? ⟨N, 1, none⟩ = some (.int .i64 0) ∧ w.frozen? ⟨N, 0, none⟩ = false ∧ w.frozen? ⟨N, 1, none⟩ = false := by
  simp [World.cell?, World.frozen?, h]

theorem BX.set {w : World} {S g : Nat} {ws : List Int} {f n : Nat} (h : BX w S g ws f n) {a : Addr} (h1 : a.block ≠ S) (h2 : a.block ≠ g) (u : Value) : BX (w.setCell a u) S g ws f n :=
  ⟨(Below.heap_setCell _ _ _ _ (fun e => h1 e.symm)).trans h.blk, RK.far (Below.heap_setCell _ _ _ _ (fun e => h2 e.symm)) h.row, h.few, h.at', h.most⟩

set_option maxHeartbeats 400000 in
theorem do_any (S g : Nat) (ws : List Int) (f n : Nat) (o : Ml.Op) (w : World) (h : Hid (BX w S g ws f n)) (G : Ml.Got) (hG : Hid (G = Ml.got n ws o)) (ws' : List Int) (hw : Hid (ws' = Ml.wds n ws o)) :
    Calls Try.prog 10 #[.pointer (some ⟨S, 0, none⟩), .agg #[.bool o.put, .int .i64 o.v]] w fun e w' => e = .returned (.agg #[.bool G.ok, .int .i64 G.v]) ∧ (∃ f', BX w' S g ws' f' n) ∧ Mv w w' S g := by
  obtain ⟨hS, hg⟩ := h.out.lt
  cases hp : o.put with
  | true =>
    have HP := hide hp
    clear hp
    go_enter Try.func10, Try.ntmps10
    go_wp2_with fail
    refine (put_any S g ws f n o HP.out _ (hide ((h.out.alloc _).alloc _)) G hG ws' hw).mono ?_
    rintro e w1 ⟨rfl, hv, ⟨f', hb⟩, hm⟩
    obtain ⟨hm1, hz, _⟩ := mv_in hm hS hg
    obtain ⟨z0, z1, y0, y1⟩ := zg_cells hz
    have HV := hide hv
    have HB := hide hb
    have HM := hide hm1
    have hlt := lt_of_block hz
    clear hb hm hm1 hz hv
    go_wp2
    refine bodyPost_ret (v := .agg #[.bool G.ok, .int .i64 0]) (by simp [results, Try.results10, go_sem, z0, z1]) rfl ?_
    exact ⟨by rw [HV.out], ⟨f', (HB.out.set (a := ⟨w.heap.size + 1, 0, none⟩) (by show w.heap.size + 1 ≠ S; omega) (by show w.heap.size + 1 ≠ g; omega) _).set (a := ⟨w.heap.size + 1, 1, none⟩) (by show w.heap.size + 1 ≠ S; omega) (by show w.heap.size + 1 ≠ g; omega) _⟩, (HM.out.set (a := ⟨w.heap.size + 1, 0, none⟩) (.inr (.inr (Nat.le_succ _))) _).set (a := ⟨w.heap.size + 1, 1, none⟩) (.inr (.inr (Nat.le_succ _))) _⟩
  | false =>
    have HP := hide hp
    clear hp
    go_enter Try.func10, Try.ntmps10
    go_wp2_with fail
    refine (take_any S g ws f n o HP.out _ (hide ((h.out.alloc _).alloc _)) G hG ws' hw).mono ?_
    rintro e w1 ⟨rfl, ⟨f', hb⟩, hm⟩
    obtain ⟨hm1, hz, _⟩ := mv_in hm hS hg
    obtain ⟨z0, z1, y0, y1⟩ := zg_cells hz
    have HB := hide hb
    have HM := hide hm1
    have hlt := lt_of_block hz
    clear hb hm hm1 hz
    go_wp2
    refine bodyPost_ret (v := .agg #[.bool G.ok, .int .i64 G.v]) (by simp [results, Try.results10, go_sem, z0, z1]) rfl ?_
    exact ⟨rfl, ⟨f', (HB.out.set (a := ⟨w.heap.size + 1, 0, none⟩) (by show w.heap.size + 1 ≠ S; omega) (by show w.heap.size + 1 ≠ g; omega) _).set (a := ⟨w.heap.size + 1, 1, none⟩) (by show w.heap.size + 1 ≠ S; omega) (by show w.heap.size + 1 ≠ g; omega) _⟩, (HM.out.set (a := ⟨w.heap.size + 1, 0, none⟩) (.inr (.inr (Nat.le_succ _))) _).set (a := ⟨w.heap.size + 1, 1, none⟩) (.inr (.inr (Nat.le_succ _))) _⟩

end Go.Proofs.Ytcjjflmnhmengaa
