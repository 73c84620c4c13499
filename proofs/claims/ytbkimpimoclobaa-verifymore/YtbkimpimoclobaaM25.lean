/- The walk of goOn: what it wants besides. -/
import Derived.Test.YtbkimpimoclobaaM23
namespace Go.Proofs.Ytbkimpimoclobaa
open Go.RowKit

theorem Try.infou : (Try.prog.info? 59).map (fun i => i.size) = some 1 := by kernel_rfl
theorem eq_u64 (d : Nat) (x y : BitVec 64) (w : World) : (Op.equalIn (d + 1) 59 (bvV x) (bvV y)).run Try.prog w = .ok (x == y) w := by
  have e : ((x.toNat : Int) == (y.toNat : Int)) = (x == y) := by
    by_cases h : x = y
    · subst h; simp
    · have h0 : x.toNat ≠ y.toNat := fun e => h (BitVec.eq_of_toNat_eq e)
      have h1 : (x == y) = false := by simpa using h
      have h2 : ((x.toNat : Int) == (y.toNat : Int)) = false := by rw [beq_eq_false_iff_ne]; omega
      rw [h1, h2]
  simp [Op.equalIn, run_underlying Try.underlying59, e]
theorem fl_neq (f g : Vf.Fl) (w : World) : (Op.equalIn 10000 61 (flV f) (flV g)).run Try.prog w = .ok (Vf.Fl.eq f g) w := by
  have hu := run_underlying (P := Try.prog) (w := w) Try.underlying61
  have h : ∀ d : Nat, (Op.equalIn (d + 2) 61 (flV f) (flV g)).run Try.prog w = .ok (Vf.Fl.eq f g) w := fun d => by
    obtain ⟨j, hj, hj2⟩ := Option.map_eq_some_iff.1 Try.infou
    have e4 : List.range' 0 4 = [0, 1, 2, 3] := rfl
    have p0 : ∀ (a b c e : BitVec 64) (w : World), (part 59 #[bvV a, bvV b, bvV c, bvV e] 0).run Try.prog w = .ok (bvV a) w := fun _ _ _ _ _ => by simp [part, sizeOf, typeInfo, hj, hj2]
    have p1 : ∀ (a b c e : BitVec 64) (w : World), (part 59 #[bvV a, bvV b, bvV c, bvV e] 1).run Try.prog w = .ok (bvV b) w := fun _ _ _ _ _ => by simp [part, sizeOf, typeInfo, hj, hj2]
    have p2 : ∀ (a b c e : BitVec 64) (w : World), (part 59 #[bvV a, bvV b, bvV c, bvV e] 2).run Try.prog w = .ok (bvV c) w := fun _ _ _ _ _ => by simp [part, sizeOf, typeInfo, hj, hj2]
    have p3 : ∀ (a b c e : BitVec 64) (w : World), (part 59 #[bvV a, bvV b, bvV c, bvV e] 3).run Try.prog w = .ok (bvV e) w := fun _ _ _ _ _ => by simp [part, sizeOf, typeInfo, hj, hj2]
    rw [Op.equalIn]
    simp [hu, sizeOf, typeInfo, hj, hj2, e4, p0, p1, p2, p3, eq_u64]
    unfold Vf.Fl.eq
    by_cases ha : f.a = g.a
    · by_cases hb : f.b = g.b
      · by_cases hc : f.c = g.c
        · by_cases hd : f.d = g.d
          · simp [ha, hb, hc, hd]
          · simp [ha, hb, hc, hd]
        · simp [ha, hb, hc]
      · simp [ha, hb]
    · simp [ha]
  exact h 9998

theorem low_grown0 {B : Nat} {w w' : World} (h : w.grownBy w' none) (hB : B ≤ w.heap.size) : Low B w w' := fun k hk => h.block k (by omega) (by simp)
theorem kc_grown0 {w w' : World} (h : w.grownBy w' none) : KC w w' := kc_grown h (fun _ _ _ e => by cases e)
theorem WF.quiet {c : FC} {B F : Nat} {w w' : World} {k : Vf.Kn} {n : Int} {s : Vf.S} (h : WF c B F w k n s) (hg : w.grownBy w' none) : WF c B F w' k n s := by
  obtain ⟨top, rv, hF, hq⟩ := h.fl
  have hB : B ≤ w.heap.size := by have := h.env.base; have := h.env.lt; omega
  exact ⟨⟨h.env.md.low (low_grown0 hg hB), h.env.un.low (low_grown0 hg hB), h.env.base, by have := hg.size; have := h.env.lt; omega⟩, h.mB, ⟨top, rv, ⟨(hg.block F h.env.lt (by simp)).trans hF.blk, hF.sk.keep (kc_grown0 hg)⟩, hq.keep fun j hj => hg.block j (hq.lt j hj).2 (by simp)⟩, h.come.keep (hg.block _ h.come.lt (by simp)) (kc_grown0 hg)⟩
theorem WF.set {c : FC} {B F N : Nat} {w : World} {k : Vf.Kn} {n : Int} {s : Vf.S} {cs : Array Value} {t : TypeId} {fr : Nat × Nat} (h : WF c B F w k n s) (hN : w.heap[N]? = some (.cells cs t fr)) (h1 : t ≠ 109) (h2 : t ≠ 3) (h3 : t ≠ 65) (hB : B ≤ N) (o : Nat) (v : Value) : WF c B F (w.setCell ⟨N, o, none⟩ v) k n s := by
  obtain ⟨top, rv, hF, hq⟩ := h.fl
  have far : ∀ j, j ≠ N → (w.setCell ⟨N, o, none⟩ v).heap[j]? = w.heap[j]? := fun j hj => Below.heap_setCell _ ⟨N, o, none⟩ _ _ hj
  have kc : KC w (w.setCell ⟨N, o, none⟩ v) := fun b cs' hb => (far b (fun e => by subst e; rw [hN] at hb; cases hb; exact h1 rfl)).trans hb
  have hNF : F ≠ N := fun e => by subst e; rw [hF.blk] at hN; cases hN; exact h3 rfl
  have hNM : c.M ≠ N := fun e => by
    obtain ⟨es, cl, hm, _⟩ := h.come
    subst e
    rw [hm] at hN
    cases hN
  have low : Low B w (w.setCell ⟨N, o, none⟩ v) := fun j hj => far j (by omega)
  refine ⟨⟨h.env.md.low low, h.env.un.low low, h.env.base, by have := h.env.lt; simp [World.setCell]; omega⟩, h.mB, ⟨top, rv, ⟨(far F hNF).trans hF.blk, hF.sk.keep kc⟩, hq.keep fun j hj => far j (fun e => ?_)⟩, h.come.keep (far _ hNM) kc⟩
  subst e
  exact hq.ty hN (fun cs fr e => by cases e; exact h2 rfl) hj

/-- What comes of going on. -/
structure GEnd (c : FC) (B F : Nat) (k : Vf.Kn) (n : Int) (r : Except Int Vf.S) (w : World) (e : Ending) (w' : World) : Prop where
  below : Below B w w'
  no : ∀ er, r = .error er → e = .panicked [fltE er n]
  yes : ∀ s, r = .ok s → e = .returned (.tuple #[]) ∧ WF c B F w' k n s
theorem GEnd.bad {c : FC} {B F : Nat} {k : Vf.Kn} {n : Int} {r : Except Int Vf.S} {w w' : World} {er : Int} (hb : Below B w w') (hr : r = .error er) : GEnd c B F k n r w (.panicked [fltE er n]) w' :=
  ⟨hb, fun er' e => (by rw [hr] at e; cases e; rfl), fun s e => (by rw [hr] at e; cases e)⟩
theorem GEnd.good {c : FC} {B F : Nat} {k : Vf.Kn} {n : Int} {r : Except Int Vf.S} {w w' : World} {s : Vf.S} (hb : Below B w w') (hr : r = .ok s) (hF : WF c B F w' k n s) : GEnd c B F k n r w (.returned (.tuple #[])) w' :=
  ⟨hb, fun er' e => (by rw [hr] at e; cases e), fun s e => (by rw [hr] at e; cases e; exact ⟨rfl, hF⟩)⟩
theorem below0 {B : Nat} {w w' : World} (h : w.grownBy w' none) (hB : B ≤ w.heap.size) : Below B w w' := below_grown h hB (fun _ e => by cases e)

theorem kn_cells {w : World} {N : Nat} {k : Vf.Kn} {top : Option Addr} (h : w.heap[N]? = some (knO k top)) : w.cell? ⟨N, 0, none⟩ = some (.pointer top) ∧ w.cell? ⟨N, 1, none⟩ = some (.int .i64 (k.st.length : Int)) ∧ w.cell? ⟨N, 2, none⟩ = some (bvV k.fl.a) ∧ w.cell? ⟨N, 3, none⟩ = some (bvV k.fl.b) ∧ w.cell? ⟨N, 4, none⟩ = some (bvV k.fl.c) ∧ w.cell? ⟨N, 5, none⟩ = some (bvV k.fl.d) := by
  simp [World.cell?, h]
theorem kn_frozen {w : World} {N : Nat} {k : Vf.Kn} {top : Option Addr} (h : w.heap[N]? = some (knO k top)) : w.frozen? ⟨N, 2, none⟩ = false ∧ w.frozen? ⟨N, 3, none⟩ = false ∧ w.frozen? ⟨N, 4, none⟩ = false ∧ w.frozen? ⟨N, 5, none⟩ = false := by
  simp [World.frozen?, h]
theorem kn_set {w : World} {N : Nat} {k : Vf.Kn} {top : Option Addr} (h : w.heap[N]? = some (knO k top)) (f : Vf.Fl) : ((((w.setCell ⟨N, 2, none⟩ (bvV f.a)).setCell ⟨N, 3, none⟩ (bvV f.b)).setCell ⟨N, 4, none⟩ (bvV f.c)).setCell ⟨N, 5, none⟩ (bvV f.d)).heap[N]? = some (knO ⟨k.st, f⟩ top) := by
  simp only [World.setCell, Array.getElem?_modify, if_true, h, Option.map_some]
  rfl
theorem kn_wf {c : FC} {B F N : Nat} {w : World} {k t : Vf.Kn} {n : Int} {s : Vf.S} {top : Option Addr} (h : WF c B F w k n s) (hN : w.heap[N]? = some (knO t top)) (hB : B ≤ N) (f : Vf.Fl) : WF c B F ((((w.setCell ⟨N, 2, none⟩ (bvV f.a)).setCell ⟨N, 3, none⟩ (bvV f.b)).setCell ⟨N, 4, none⟩ (bvV f.c)).setCell ⟨N, 5, none⟩ (bvV f.d)) k n s ∧ Below B w ((((w.setCell ⟨N, 2, none⟩ (bvV f.a)).setCell ⟨N, 3, none⟩ (bvV f.b)).setCell ⟨N, 4, none⟩ (bvV f.c)).setCell ⟨N, 5, none⟩ (bvV f.d)) ∧ KC w ((((w.setCell ⟨N, 2, none⟩ (bvV f.a)).setCell ⟨N, 3, none⟩ (bvV f.b)).setCell ⟨N, 4, none⟩ (bvV f.c)).setCell ⟨N, 5, none⟩ (bvV f.d)) := by
  have step : ∀ {w : World} {cs : Array Value}, w.heap[N]? = some (.cells cs 63 (0, 0)) → ∀ (o : Nat) (v : Value), (w.setCell ⟨N, o, none⟩ v).heap[N]? = some (.cells (cs.setIfInBounds o v) 63 (0, 0)) := fun hw o v => by
    simp only [World.setCell, Array.getElem?_modify, if_true, hw, Option.map_some]
    rfl
  have kc : ∀ {w : World} {cs : Array Value}, w.heap[N]? = some (.cells cs 63 (0, 0)) → ∀ (o : Nat) (v : Value), KC w (w.setCell ⟨N, o, none⟩ v) := fun {w cs} hw o v b cs' hb => (Below.heap_setCell w ⟨N, o, none⟩ v b (fun e => by
    have e1 : b = N := e
    subst e1
    rw [hw] at hb
    cases hb)).trans hb
  have h1 := step hN 2 (bvV f.a)
  have h2 := step h1 3 (bvV f.b)
  have h3 := step h2 4 (bvV f.c)
  refine ⟨(((h.set hN (by decide) (by decide) (by decide) hB _ _).set h1 (by decide) (by decide) (by decide) hB _ _).set h2 (by decide) (by decide) (by decide) hB _ _).set h3 (by decide) (by decide) (by decide) hB _ _, ((((Below.refl B w).setCell (p := ⟨N, 2, none⟩) hB _).setCell (p := ⟨N, 3, none⟩) hB _).setCell (p := ⟨N, 4, none⟩) hB _).setCell (p := ⟨N, 5, none⟩) hB _, ((kc hN _ _).trans (kc h1 _ _)).trans ((kc h2 _ _).trans (kc h3 _ _))⟩

end Go.Proofs.Ytbkimpimoclobaa

