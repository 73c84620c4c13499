/- The walk of image.Parse. -/
import Derived.Test.YtnfkfgpnojdfoaaIm18
import Derived.Test.YtnfkfgpnojdfoaaIm8
namespace Go.Proofs.Ytnfkfgpnojdfoaa
open Go.RowKit

/-- What Parse answers. -/
def Im.parse (l : List Nat) : Option Im.Md × Int :=
  if 60000 < l.length then (none, 4) else if l.length < 2 then (none, 2) else
    if Im.sum (l.take (l.length - 2)) ≠ l.getD (l.length - 2) 0 * 256 + l.getD (l.length - 1) 0 then (none, 8) else
      match Im.rmod (l.take (l.length - 2)) with
      | none => (none, 2)
      | some m => (some m, 0)
theorem Im.parse_fit (p : List Nat) (x y : Nat) (h : p.length + 2 ≤ 60000) : Im.parse (p ++ [x, y]) = (if Im.sum p ≠ x * 256 + y then (none, (8 : Int)) else match Im.rmod p with | none => (none, (2 : Int)) | some m => (some m, (0 : Int))) := by
  unfold Im.parse
  rw [if_neg (by simp; omega), if_neg (by simp)]
  have e1 : (p ++ [x, y]).take ((p ++ [x, y]).length - 2) = p := by simp
  have e2 : (p ++ [x, y]).getD ((p ++ [x, y]).length - 2) 0 = x := by simp
  have e3 : (p ++ [x, y]).getD ((p ++ [x, y]).length - 1) 0 = y := by simp
  rw [e1, e2, e3]

set_option maxRecDepth 100000 in
set_option maxHeartbeats 1000000 in
theorem parse1_any (R M b : Nat) (p : List Nat) (w : World) (h : Hid (RD w R b p)) (hM : Hid (w.heap[M]? = some Zm)) (hMR : M ≠ R) (r : Option Im.Md) (hr : Hid (r = Im.rmod p)) :
    Calls Try.prog 20 #[.pointer (some ⟨R, 0, none⟩), .pointer (some ⟨M, 0, none⟩)] w fun e w' => Kr2 R M w w' ∧ match r with
      | none => e = .panicked [fltE 2 0] ∧ w'.heap[M]? = some Zm
      | some m => e = .returned (.tuple #[]) ∧ ∃ ab cb au cu, w'.heap[M]? = some (mdO m ab au cb cu) ∧ MdT w.heap.size w' m ab au cb cu := by
  go_enter Try.func20, Try.ntmps20
  go_wp2_with fail
  refine (module_r R b p _ h r hr).mono ?_
  rintro e w2 ⟨hk, hm⟩
  have hltM := lt_of_block hM.out
  have hM2 : w2.heap[M]? = some Zm := (hk.blk M hltM hMR).trans hM.out
  have HK : Hid (Kr2 R M w w2) := hk.two
  cases r with
  | none =>
    obtain rfl : e = .panicked [fltE 2 0] := hm
    have HM2 := hide hM2
    clear hM2 hk
    go_wp2
    exact ⟨rfl, HK.out, rfl, HM2.out⟩
  | some m =>
    obtain ⟨ab, cb, au, cu, rfl, hT⟩ := hm
    have HT := hide hT
    have HM2 := hide hM2
    obtain ⟨c0, c1, f0, f1⟩ := two_cell hM2
    clear hM2 hk hT
    go_wp2
    go_end0
    refine ⟨(HK.out.set _ _).set _ _, rfl, ab, cb, au, cu, ?_, ?_⟩
    · have := set_rowR (set_rowR (cs := [.slice none 0 0, .slice none 0 0]) HM2.out 0 (.slice ab m.boxes.length cb)) 1 (.slice au m.units.length cu)
      exact this
    · obtain ⟨us, h1, h2, h3⟩ := HT.out.units
      exact ⟨own_keep HT.out.boxes (fun j hj => set2_far _ _ _ _ (by have := (HT.out.boxes.lt j hj).1; omega)), us, h1, own_keep h2 (fun j hj => set2_far _ _ _ _ (by have := (h2.lt j hj).1; omega)), fun x hx => (h3 x hx).keep (fun j cs t fr hB hb ht => set2_far _ _ _ _ (by omega))⟩

/-- A module of one's own stays while the blocks below, and those of other kinds, turn. -/
theorem MdT.keep {B : Nat} {W W' : World} {m : Im.Md} {ab au : Option Addr} {cb cu : Nat} (h : MdT B W m ab au cb cu) (hk : ∀ (k : Nat) (cs : Array Value) (t : TypeId) (fr : Nat × Nat), B ≤ k → W.heap[k]? = some (.cells cs t fr) → t = 3 ∨ t = 54 ∨ t = 48 ∨ t = 52 → W'.heap[k]? = W.heap[k]?) : MdT B W' m ab au cb cu := by
  have own_typed : ∀ {e size n : Nat} {v : Value} {xs : List Value}, W.ownsRow B e size v n xs → e = 3 ∨ e = 54 ∨ e = 48 ∨ e = 52 → W'.ownsRow B e size v n xs := by
    intro e size n v xs ho he
    refine own_keep ho (fun k hj => ?_)
    rcases ho.2 with ⟨rfl, _⟩ | ⟨g, cap, cur, rfl, hg, hh, _⟩
    · simp [Value.ownBlock] at hj
    · simp only [Value.ownBlock, Option.some.injEq] at hj
      subst hj
      exact hk _ _ _ _ hg hh he
  obtain ⟨us, h1, h2, h3⟩ := h.units
  exact ⟨own_typed h.boxes (.inr (.inr (.inl rfl))), us, h1, own_typed h2 (.inr (.inr (.inr rfl))), fun x hx => (h3 x hx).keep (fun k cs t fr hB hb ht => hk k cs t fr hB hb (by rcases ht with ht | ht; exact .inl ht; exact .inr (.inl ht)))⟩
theorem MdT.base {B C : Nat} {W : World} {m : Im.Md} {ab au : Option Addr} {cb cu : Nat} (h : MdT C W m ab au cb cu) (hB : B ≤ C) : MdT B W m ab au cb cu := by
  obtain ⟨us, h1, h2, h3⟩ := h.units
  exact ⟨own_base h.boxes hB, us, h1, own_base h2 hB, fun x hx => ⟨own_base (h3 x hx).l hB, own_base (h3 x hx).c hB⟩⟩
theorem MdT.empty (B : Nat) (W : World) : MdT B W ⟨[], []⟩ none none 0 0 := ⟨World.ownsRow_nil _ _ _ _, [], rfl, World.ownsRow_nil _ _ _ _, fun x hx => by simp at hx⟩

theorem below_drew2 {B : Nat} {a w : World} (h : Below B a w) : Below B a w.drew := h.trans ⟨rfl, rfl, rfl, Nat.le_refl _, fun _ _ => rfl⟩

theorem one_blk {w : World} {N : Nat} {u v : Value} {t : TypeId} (h : w.heap[N]? = some (.cells #[u, v] t (0, 0))) : w.cell? ⟨N, 0, none⟩ = some u ∧ w.cell? ⟨N, 1, none⟩ = some v ∧ w.frozen? ⟨N, 0, none⟩ = false ∧ w.frozen? ⟨N, 1, none⟩ = false := cells2_at h

set_option maxRecDepth 100000 in
set_option maxHeartbeats 4000000 in
theorem parse_go (p : List Nat) (x y : Nat) (a : Option Addr) (c : Nat) (w : World) (hin : Hid (BIn w (p ++ [x, y]) a)) (hl : p.length + 2 ≤ 60000) (hc : p.length + 2 ≤ c) (s : Nat) (hs : Hid (s = Im.sum p)) (hne : Hid (s = x * 256 + y)) (r : Option Im.Md) (hr : Hid (r = Im.rmod p)) (er : Int) (her : Hid (er = if r = none then 2 else 0)) :
    Calls Try.prog 11 #[.slice a (p.length + 2) c] w fun e w' => ∃ ab cb au cu, e = .returned (.tuple #[mdV (r.getD ⟨[], []⟩) ab au cb cu, .int .i64 er]) ∧ MdT w.heap.size w' (r.getD ⟨[], []⟩) ab au cb cu ∧ Below w.heap.size w w' := by
  have hmf : ∀ (fn : Fn) (first cap : Array Value) (w : World), (Instr.makeFunc fn first cap).run Try.prog w = .ok (.func fn first cap) w := fun _ _ _ _ => rfl
  obtain ⟨hx, b, off, rfl, cx⟩ := hin.out p.length x (by simp)
  obtain ⟨hy, b', off', e, cy⟩ := hin.out (p.length + 1) y (by simp)
  simp at e
  obtain ⟨rfl, rfl⟩ := e
  have hbl : b < w.heap.size := by
    obtain ⟨b1, o1, e, h⟩ := hin.out.lt (by simp)
    simp at e
    rw [e.1]; exact h
  have HIN : Hid (BIn (w.alloc Zm) p (some ⟨b, off, none⟩)) := (hin.out.alloc _).pre
  have e1 : ¬ (60000 : Int) < (p.length : Int) + 2 := by omega
  have e2 : ¬ (p.length : Int) + 2 < 2 := by omega
  have hs16 : s < 65536 := by rw [hs.out]; exact Im.sum_lt p
  have d1 : IntKind.u16.wrap (x : Int) = (x : Int) := by rw [wrap_u16]; omega
  have d2 : IntKind.u16.wrap (y : Int) = (y : Int) := by rw [wrap_u16]; omega
  have d3 : IntKind.u16.wrap ((x : Int) * 256) = ((x * 256 : Nat) : Int) := by rw [wrap_u16]; omega
  have d4 : bits .or .u16 ((x * 256 : Nat) : Int) (y : Int) = ((x * 256 + y : Nat) : Int) := by
    rw [u16_or_nat _ _ (by omega) (by omega)]
    have := Nat.two_pow_add_eq_or_of_lt (i := 8) (b := y) (by omega) x
    rw [show 2 ^ 8 * x = x * 256 by omega] at this
    rw [← this]
  obtain ⟨q, hq⟩ : ∃ q, q = x * 256 + y := ⟨_, rfl⟩
  obtain ⟨x2, hx2⟩ : ∃ q, q = x * 256 := ⟨_, rfl⟩
  rw [← hq] at d4 hne
  rw [← hx2] at d3 d4
  rw [← Nat.add_assoc] at cy
  have e5 : ((s : Int) != (q : Int)) = false := by have := hne.out; simp; omega
  have HOK : Hid (Im.Ok p) := fun z hz => by
    obtain ⟨i, hi⟩ := List.mem_iff_getElem?.1 hz
    exact (hin.out i z (by rw [List.getElem?_append_left (List.getElem?_eq_some_iff.1 hi).1]; exact hi)).1
  clear hin hq hx2 hne
  go_enter Try.func11, Try.ntmps11
  go_wp2
  go_quiet (fail)
  go_wp2
  go_region_held3 (fun w' => w'.cell? ⟨b, off + p.length, none⟩ = some (.int .u8 x) ∧ w'.cell? ⟨b, off + p.length + 1, none⟩ = some (.int .u8 y)) (go_keep) ((go_at_call 9; refine (sum_any p (some ⟨b, off, none⟩) c (by omega) _ (hide (HIN.out.drewN _)) s hs).mono ?_; rintro e w' ⟨rfl, rfl⟩))
  clear cx cy
  go_wp2_with fail
  obtain ⟨W0, hW0⟩ : ∃ W0, W0 = (w.alloc Zm).drewN (nq + 1) := ⟨_, rfl⟩
  have hW0s : W0.heap.size = w.heap.size + 1 := by rw [hW0]; simp [World.drewN]
  have hW0n : W0.heap[w.heap.size]? = some Zm := by rw [hW0]; exact heap_alloc_new w Zm
  have hW0b : BIn W0 p (some ⟨b, off, none⟩) := by rw [hW0]; exact HIN.out.drewN _
  have hW0w : Below w.heap.size w W0 := by rw [hW0]; exact below_drewN' ((Below.refl _ w).alloc (Nat.le_refl _) _) _
  rw [← hW0]
  generalize hWc : ((W0.alloc (.cells #[.slice (some ⟨b, off, none⟩) p.length c] 57)).alloc (.cells #[.slice none 0 0, .slice none 0 0] 25)) = Wc
  have hcs : Wc.heap.size = w.heap.size + 3 := by rw [← hWc]; simp; omega
  have hcN : Wc.heap[w.heap.size]? = some Zm := by
    rw [← hWc, Below.heap_alloc _ _ _ (by simp; omega), Below.heap_alloc _ _ _ (by omega)]
    exact hW0n
  have hcR : Wc.heap[w.heap.size + 1]? = some (.cells #[.slice (some ⟨b, off, none⟩) p.length c] 57 (0, 0)) := by
    rw [← hWc, Below.heap_alloc _ _ _ (by simp; omega), ← hW0s]
    exact heap_alloc_new _ _
  have hcM : Wc.heap[w.heap.size + 1 + 1]? = some Zm := by
    have := heap_alloc_new (W0.alloc (.cells #[.slice (some ⟨b, off, none⟩) p.length c] 57)) Zm
    rw [← hWc]
    simp only [World.alloc] at this ⊢
    simp at this ⊢
    simpa [hW0s] using this
  have hcb : BIn Wc p (some ⟨b, off, none⟩) := by rw [← hWc]; exact (hW0b.alloc _).alloc _
  have HcW : Hid (Below w.heap.size w Wc) := by rw [← hWc]; exact (hW0w.alloc (by omega) _).alloc (by simp; omega) _
  have HRD : Hid (RD (Wc.alloc Z2C) (w.heap.size + 1) b p) := RD.alloc ⟨⟨off, c, hcR, by omega, fun i z hz => by obtain ⟨_, b2, o2, e, h⟩ := hcb i z hz; simp at e; obtain ⟨rfl, rfl⟩ := e; exact h⟩, HOK.out, by omega, by omega, by omega⟩ _
  have HM : Hid ((Wc.alloc Z2C).heap[w.heap.size + 1 + 1]? = some Zm) := (Below.heap_alloc _ _ _ (by omega)).trans hcM
  have HNN : Hid ((Wc.alloc Z2C).heap[w.heap.size]? = some Zm) := (Below.heap_alloc _ _ _ (by omega)).trans hcN
  clear hW0 hW0s hW0n hW0b hW0w hWc hcR hcM hcb hcN HIN
  refine (caught_any 20 #[.pointer (some ⟨w.heap.size + 1, 0, none⟩), .pointer (some ⟨w.heap.size + 1 + 1, 0, none⟩)] er 0 (fun w' => Kr2 (w.heap.size + 1) (w.heap.size + 1 + 1) (Wc.alloc Z2C) w' ∧ ∃ ab cb au cu, w'.heap[w.heap.size + 1 + 1]? = some (mdO (r.getD ⟨[], []⟩) ab au cb cu) ∧ MdT (Wc.alloc Z2C).heap.size w' (r.getD ⟨[], []⟩) ab au cb cu) _ (fun _ => rfl) ?_ ?_).mono ?_
  · intro w'
    first | rfl | kernel_rfl | simp [go_sem]
  · refine (parse1_any (w.heap.size + 1) (w.heap.size + 1 + 1) b p _ HRD HM (by omega) r hr).mono ?_
    rintro e w' ⟨hk, hm⟩
    have hF : w'.heap[Wc.heap.size]? = some Z2C := (hk.blk _ (by simp) (by omega) (by omega)).trans (heap_alloc_new Wc Z2C)
    cases r with
    | none =>
      obtain ⟨rfl, hM2⟩ := hm
      have e2 : er = 2 := by rw [her.out]; rfl
      exact ⟨⟨hk, none, 0, none, 0, hM2, MdT.empty _ _⟩, hF, by unfold Thrown; rw [if_neg (by rw [e2]; decide), e2]⟩
    | some m =>
      obtain ⟨rfl, ab, cb, au, cu, h1, h2⟩ := hm
      have e2 : er = 0 := by rw [her.out]; rfl
      exact ⟨⟨hk, ab, cb, au, cu, h1, h2⟩, hF, by unfold Thrown; rw [if_pos e2]⟩
  rintro e w1 ⟨rfl, wx, ⟨hk, ab, cb, au, cu, hM2, hT⟩, hF, hW⟩
  obtain ⟨m, hmm⟩ : ∃ m, m = r.getD ⟨[], []⟩ := ⟨_, rfl⟩
  rw [← hmm] at hM2 hT
  have HMM := hide hmm
  clear hmm
  obtain ⟨W8, hW8⟩ : ∃ W8, W8 = w1.alloc (.cells #[.int .i64 er, .int .i64 0] 42) := ⟨_, rfl⟩
  have hs1 : w1.heap.size = wx.heap.size := by rw [hW]; simp [World.setCell]
  have hks := hk.size
  simp at hks
  have far : ∀ j, j < wx.heap.size → j ≠ Wc.heap.size → W8.heap[j]? = wx.heap[j]? := fun j hj hne => by
    rw [hW8, Below.heap_alloc _ _ _ (by omega), hW]
    exact set2_far _ _ _ _ hne
  have hM8 : W8.heap[w.heap.size + 1 + 1]? = some (mdO m ab au cb cu) := (far _ (lt_of_block hM2) (by omega)).trans hM2
  have hN8 : W8.heap[w.heap.size]? = some Zm := by
    rw [far _ (by omega) (by omega), hk.blk _ (by simp; omega) (by omega) (by omega)]
    exact HNN.out
  have HT8 : Hid (MdT w.heap.size W8 m ab au cb cu) := (hT.base (by simp; omega)).keep (fun k cs t fr hB hb ht => far k (lt_of_block hb) (fun e => by
    subst e
    rw [hF] at hb
    simp at hb
    rcases ht with rfl | rfl | rfl | rfl <;> exact absurd hb.2.1 (by decide)))
  have HB8 : Hid (Below w.heap.size w W8) := by
    refine HcW.out.trans ⟨?_, ?_, ?_, by rw [hW8]; simp; omega, fun j hj => ?_⟩
    · rw [hW8, hW]; exact hk.os
    · rw [hW8, hW]; exact hk.tape
    · rw [hW8, hW]; exact hk.output
    · rw [far j (by omega) (by omega), hk.blk j (by simp; omega) (by omega) (by omega)]
      exact Below.heap_alloc _ _ _ (by omega)
  have hE8 : W8.heap[w1.heap.size]? = some (.cells #[.int .i64 er, .int .i64 0] 42 (0, 0)) := by rw [hW8]; exact heap_alloc_new _ _
  obtain ⟨m0, m1, _, _⟩ := cells2_at hM8
  obtain ⟨n0, n1, g0, g1⟩ := cells2_at hN8
  obtain ⟨q0, q1, _, _⟩ := cells2_at hE8
  have HN8 := hide hN8
  have hlt1 : w.heap.size < w1.heap.size := by omega
  clear hT hM2 hk hF hW far hM8 hN8 hE8 HNN HM HRD hs1 hks hcs
  go_wp2
  rw [← hW8]
  clear hW8
  go_region
  go_wp2
  refine bodyPost_ret (v := .tuple #[mdV m ab au cb cu, .int .i64 er]) (by simp [results, Try.results11, go_sem, n0, n1]) rfl ?_
  rw [← HMM.out]
  refine ⟨ab, cb, au, cu, rfl, ?_, ?_⟩
  · exact HT8.out.keep (fun j cs t fr hB hb ht => set2_far _ _ _ _ (fun e => by
      subst e
      rw [HN8.out] at hb
      simp at hb
      rcases ht with rfl | rfl | rfl | rfl <;> exact absurd hb.2.1 (by decide)))
  · exact below_drew2 ((HB8.out.setCell (p := ⟨w.heap.size, 0, none⟩) (Nat.le_refl _) _).setCell (p := ⟨w.heap.size, 1, none⟩) (Nat.le_refl _) _)

/-- WHAT image.Parse ANSWERS. -/
theorem parse_any (l : List Nat) (a : Option Addr) (c : Nat) (w : World) (hin : Hid (BIn w l a)) (hc : l.length ≤ c) (r : Option Im.Md) (er : Int) (hr : Hid (Im.parse l = (r, er))) :
    Calls Try.prog 11 #[.slice a l.length c] w fun e w' => ∃ ab cb au cu, e = .returned (.tuple #[mdV (r.getD ⟨[], []⟩) ab au cb cu, .int .i64 er]) ∧ MdT w.heap.size w' (r.getD ⟨[], []⟩) ab au cb cu ∧ Below w.heap.size w w' := by
  have hp := hr.out
  by_cases h1 : 60000 < l.length
  · unfold Im.parse at hp
    rw [if_pos h1] at hp
    obtain ⟨rfl, rfl⟩ := Prod.mk.inj hp
    refine (parse_much l a c w h1).mono ?_
    rintro e w' ⟨rfl, hb⟩
    exact ⟨none, 0, none, 0, rfl, MdT.empty _ _, hb⟩
  by_cases h2 : l.length < 2
  · unfold Im.parse at hp
    rw [if_neg h1, if_pos h2] at hp
    obtain ⟨rfl, rfl⟩ := Prod.mk.inj hp
    refine (parse_short l a c w h2).mono ?_
    rintro e w' ⟨rfl, hb⟩
    exact ⟨none, 0, none, 0, rfl, MdT.empty _ _, hb⟩
  obtain ⟨p, x, y, rfl⟩ := Im.last2 (l := l) (by omega)
  simp only [List.length_append, List.length_cons, List.length_nil] at h1 h2 hc
  rw [Im.parse_fit p x y (by omega)] at hp
  have e0 : (p ++ [x, y]).length = p.length + 2 := by simp
  rw [e0]
  by_cases h3 : Im.sum p ≠ x * 256 + y
  · rw [if_pos h3] at hp
    obtain ⟨rfl, rfl⟩ := Prod.mk.inj hp
    refine (parse_fit p x y a c w hin (by omega) (by omega) _ (hide rfl) h3).mono ?_
    rintro e w' ⟨rfl, hb⟩
    exact ⟨none, 0, none, 0, rfl, MdT.empty _ _, hb⟩
  · rw [if_neg h3] at hp
    refine parse_go p x y a c w hin (by omega) (by omega) _ (hide rfl) (hide (by omega)) r (hide ?_) er (hide ?_)
    · cases hm : Im.rmod p with
      | none => rw [hm] at hp; exact (Prod.mk.inj hp).1.symm
      | some m => rw [hm] at hp; exact (Prod.mk.inj hp).1.symm
    · cases hm : Im.rmod p with
      | none => rw [hm] at hp; rw [← (Prod.mk.inj hp).1, ← (Prod.mk.inj hp).2]; rfl
      | some m => rw [hm] at hp; rw [← (Prod.mk.inj hp).1, ← (Prod.mk.inj hp).2]; rfl

end Go.Proofs.Ytnfkfgpnojdfoaa
