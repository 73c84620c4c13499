/- The walks of box and instr. -/
import Derived.Test.YtnfkfgpnojdfoaaIm14
import Derived.Test.YtnfkfgpnojdfoaaIm3
namespace Go.Proofs.Ytnfkfgpnojdfoaa
open Go.RowKit

abbrev Rbox (x : Im.Bx) (_ : World) (e : Ending) : Prop := e = .returned (.agg #[.int .i64 x.ty, .int .i64 x.cap])
abbrev Rins (x : Im.Ins) (_ : World) (e : Ending) : Prop := e = .returned (.agg #[.int .i64 x.op, .int .i64 x.a, .int .i64 x.n])

theorem kr_set {R N : Nat} {w w' : World} (h : Kr R w w') (hN : w.heap.size ≤ N) (o : Nat) (u : Value) : Kr R w (w'.setCell ⟨N, o, none⟩ u) := h.set (a := ⟨N, o, none⟩) (.inr hN) u
theorem rd_set {w : World} {R b N : Nat} {l : List Nat} (h : RD w R b l) (h1 : N ≠ R) (h2 : N ≠ b) (o : Nat) (u : Value) : RD (w.setCell ⟨N, o, none⟩ u) R b l :=
  h.far (Below.heap_setCell _ ⟨N, o, none⟩ _ _ (fun e => h1 e.symm)) (Below.heap_setCell _ ⟨N, o, none⟩ _ _ (fun e => h2 e.symm)) (by simp [World.setCell])

theorem cells2_at {w : World} {N : Nat} {u v : Value} {t : TypeId} (h : w.heap[N]? = some (.cells #[u, v] t (0, 0))) : w.cell? ⟨N, 0, none⟩ = some u ∧ w.cell? ⟨N, 1, none⟩ = some v ∧ w.frozen? ⟨N, 0, none⟩ = false ∧ w.frozen? ⟨N, 1, none⟩ = false := by
  simp [World.cell?, World.frozen?, h]
theorem cells3_at {w : World} {N : Nat} {u v x : Value} {t : TypeId} (h : w.heap[N]? = some (.cells #[u, v, x] t (0, 0))) : w.cell? ⟨N, 0, none⟩ = some u ∧ w.cell? ⟨N, 1, none⟩ = some v ∧ w.cell? ⟨N, 2, none⟩ = some x ∧ w.frozen? ⟨N, 0, none⟩ = false ∧ w.frozen? ⟨N, 1, none⟩ = false ∧ w.frozen? ⟨N, 2, none⟩ = false := by
  simp [World.cell?, World.frozen?, h]

set_option maxRecDepth 100000 in
set_option maxHeartbeats 1000000 in
theorem box_r (R b : Nat) (l : List Nat) (w : World) (h : Hid (RD w R b l)) (r : Option (Im.Bx × List Nat)) (hr : Hid (r = Im.rbox l)) :
    Calls Try.prog 30 #[.pointer (some ⟨R, 0, none⟩)] w fun e w' => Rf R b Rbox w r e w' := by
  have hc : Im.rbox l = (Im.rtwo l).bind fun p => some (⟨p.1.1, p.1.2⟩, p.2) := rfl
  have hlR := h.out.ltR
  have hlb := h.out.lt
  have HRD : Hid (RD ((w.alloc (.cells #[.int .i64 0, .int .i64 0] 48)).alloc (.cells #[.pointer (some ⟨w.heap.size, 0, none⟩), .pointer (some ⟨w.heap.size, 1, none⟩)] 74)) R b l) := (h.out.alloc _).alloc _
  have HKR : Hid (Kr R w ((w.alloc (.cells #[.int .i64 0, .int .i64 0] 48)).alloc (.cells #[.pointer (some ⟨w.heap.size, 0, none⟩), .pointer (some ⟨w.heap.size, 1, none⟩)] 74))) := ((Kr.refl R w).alloc _).alloc _
  obtain ⟨q, hq⟩ : ∃ q, q = Im.rtwo l := ⟨_, rfl⟩
  have HQ := hide hq
  rw [← hq] at hc
  have HC : Hid (r = q.bind fun p => some (⟨p.1.1, p.1.2⟩, p.2)) := by unfold Hid; rw [hr.out, hc]
  clear hq hc hr
  go_enter Try.func30, Try.ntmps30
  go_wp2_with fail
  refine (ints_r R b w.heap.size (w.heap.size + 1) [.int .i64 0, .int .i64 0] 48 0 l _ HRD (alloc_at1 _ _ _) (by decide) (by omega) (by omega) (alloc_at2 _ _ _) (by omega) (by omega) q HQ).mono ?_
  rintro e w2 ⟨hk, hm⟩
  have HK : Hid (Kr R w w2) := hk.one HKR.out (Nat.le_refl _)
  clear hk HRD HKR
  cases q with
  | none =>
    have HR : Hid (r = none) := HC.out
    obtain rfl : e = .panicked [fltE 2 0] := hm
    go_wp2
    exact ⟨rfl, HK.out, by rw [HR.out]⟩
  | some p =>
    obtain ⟨⟨x, y⟩, l1⟩ := p
    have HR : Hid (r = some (⟨x, y⟩, l1)) := HC.out
    obtain ⟨rfl, hD, hrd⟩ := hm
    have hD' : w2.heap[w.heap.size]? = some (.cells #[.int .i64 x, .int .i64 y] 48 (0, 0)) := hD
    obtain ⟨c0, c1, f0, f1⟩ := cells2_at hD'
    have HRD2 := hide hrd
    clear hD hD' hrd HC
    go_wp2
    refine bodyPost_ret (v := .agg #[.int .i64 x, .int .i64 y]) (by simp [results, Try.results30, go_sem, c0, c1]) rfl ?_
    exact ⟨kr_set (kr_set HK.out (Nat.le_refl _) _ _) (Nat.le_refl _) _ _, by rw [HR.out]; exact ⟨rfl, rd_set (rd_set HRD2.out (by omega) (by omega) _ _) (by omega) (by omega) _ _⟩⟩

set_option maxRecDepth 100000 in
set_option maxHeartbeats 1000000 in
theorem instr_r (R b : Nat) (l : List Nat) (w : World) (h : Hid (RD w R b l)) (r : Option (Im.Ins × List Nat)) (hr : Hid (r = Im.rins l)) :
    Calls Try.prog 36 #[.pointer (some ⟨R, 0, none⟩)] w fun e w' => Rf R b Rins w r e w' := by
  have hc : Im.rins l = (Im.rtwo l).bind fun p => (Im.rn p.2).bind fun q => some (⟨p.1.1, p.1.2, q.1⟩, q.2) := rfl
  have hlR := h.out.ltR
  have hlb := h.out.lt
  have HRD : Hid (RD ((w.alloc (.cells #[.int .i64 0, .int .i64 0, .int .i64 0] 54)).alloc (.cells #[.pointer (some ⟨w.heap.size, 0, none⟩), .pointer (some ⟨w.heap.size, 1, none⟩)] 74)) R b l) := (h.out.alloc _).alloc _
  have HKR : Hid (Kr R w ((w.alloc (.cells #[.int .i64 0, .int .i64 0, .int .i64 0] 54)).alloc (.cells #[.pointer (some ⟨w.heap.size, 0, none⟩), .pointer (some ⟨w.heap.size, 1, none⟩)] 74))) := ((Kr.refl R w).alloc _).alloc _
  obtain ⟨q, hq⟩ : ∃ q, q = Im.rtwo l := ⟨_, rfl⟩
  have HQ := hide hq
  rw [← hq] at hc
  have HC : Hid (r = q.bind fun p => (Im.rn p.2).bind fun q => some (⟨p.1.1, p.1.2, q.1⟩, q.2)) := by unfold Hid; rw [hr.out, hc]
  clear hq hc hr
  go_enter Try.func36, Try.ntmps36
  go_wp2_with fail
  refine (ints_r R b w.heap.size (w.heap.size + 1) [.int .i64 0, .int .i64 0, .int .i64 0] 54 0 l _ HRD (alloc_at1 _ _ _) (by decide) (by omega) (by omega) (alloc_at2 _ _ _) (by omega) (by omega) q HQ).mono ?_
  rintro e w2 ⟨hk, hm⟩
  have HK : Hid (Kr R w w2) := hk.one HKR.out (Nat.le_refl _)
  clear hk HRD HKR
  cases q with
  | none =>
    have HR : Hid (r = none) := HC.out
    obtain rfl : e = .panicked [fltE 2 0] := hm
    go_wp2
    exact ⟨rfl, HK.out, by rw [HR.out]⟩
  | some p =>
    obtain ⟨⟨x, y⟩, l1⟩ := p
    obtain ⟨rfl, hD, hrd⟩ := hm
    have HD : Hid (w2.heap[w.heap.size]? = some (.cells #[.int .i64 x, .int .i64 y, .int .i64 0] 54 (0, 0))) := hD
    have HRD2 := hide hrd
    clear hD hrd
    obtain ⟨n, hn⟩ : ∃ n, n = Im.rn l1 := ⟨_, rfl⟩
    have HC2 : Hid (r = n.bind fun q => some (⟨x, y, q.1⟩, q.2)) := by unfold Hid; rw [hn]; exact HC.out
    have HN := hide hn
    clear hn HC
    go_wp2_with fail
    refine (number_r R b l1 _ HRD2 n HN).mono ?_
    rintro e w3 ⟨hk3, hm⟩
    have HK3 : Hid (Kr R w w3) := HK.out.trans hk3
    have hD3 : w3.heap[w.heap.size]? = some (.cells #[.int .i64 x, .int .i64 y, .int .i64 0] 54 (0, 0)) := (hk3.blk _ (lt_of_block HD.out) (by omega)).trans HD.out
    obtain ⟨c0, c1, c2, f0, f1, f2⟩ := cells3_at hD3
    clear hk3 hD3
    cases n with
    | none =>
      have HR : Hid (r = none) := HC2.out
      obtain rfl : e = .panicked [fltE 2 0] := hm
      go_wp2
      exact ⟨rfl, HK3.out, by rw [HR.out]⟩
    | some p =>
      obtain ⟨z, l2⟩ := p
      have HR : Hid (r = some (⟨x, y, z⟩, l2)) := HC2.out
      obtain ⟨rfl, hrd⟩ := hm
      have HRD3 := hide hrd
      clear hrd HC2
      go_wp2
      refine bodyPost_ret (v := .agg #[.int .i64 x, .int .i64 y, .int .i64 z]) (by simp [results, Try.results36, go_sem, c0, c1, c2]) rfl ?_
      exact ⟨kr_set (kr_set (kr_set (kr_set HK3.out (Nat.le_refl _) _ _) (Nat.le_refl _) _ _) (Nat.le_refl _) _ _) (Nat.le_refl _) _ _, by rw [HR.out]; exact ⟨rfl, rd_set (rd_set (rd_set (rd_set HRD3.out (by omega) (by omega) _ _) (by omega) (by omega) _ _) (by omega) (by omega) _ _) (by omega) (by omega) _ _⟩⟩

end Go.Proofs.Ytnfkfgpnojdfoaa
