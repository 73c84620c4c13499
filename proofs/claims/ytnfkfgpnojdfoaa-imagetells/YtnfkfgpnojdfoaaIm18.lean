/- The walk of reader.module (its regions' trees are laid by tools/mkimage.py). -/
import Derived.Test.YtnfkfgpnojdfoaaIm17
namespace Go.Proofs.Ytnfkfgpnojdfoaa
open Go.RowKit

/-- A unit and where its rows lie. -/
structure UR where
  u : Im.Un
  al : Option Addr
  cl : Nat
  ac : Option Addr
  cc : Nat
abbrev urc (x : UR) : List Value := [.int .i64 x.u.kind, .int .i64 x.u.params, .slice x.al x.u.locals.length x.cl, .int .i64 x.u.result, .int .i64 x.u.takes, .slice x.ac x.u.code.length x.cc]
structure UrIn (B : Nat) (W : World) (x : UR) : Prop where
  l : W.ownsRow B 3 1 (.slice x.al x.u.locals.length x.cl) x.u.locals.length (x.u.locals.flatMap intc)
  c : W.ownsRow B 54 3 (.slice x.ac x.u.code.length x.cc) x.u.code.length (x.u.code.flatMap insc)

theorem UrIn.keep {B : Nat} {W W' : World} {x : UR} (h : UrIn B W x) (hk : ∀ (k : Nat) (cs : Array Value) (t : TypeId) (fr : Nat × Nat), B ≤ k → W.heap[k]? = some (.cells cs t fr) → t = 3 ∨ t = 54 → W'.heap[k]? = W.heap[k]?) : UrIn B W' x := by
  have own_typed : ∀ {e size n : Nat} {v : Value} {xs : List Value}, W.ownsRow B e size v n xs → e = 3 ∨ e = 54 → W'.ownsRow B e size v n xs := by
    intro e size n v xs ho he
    refine own_keep ho (fun k hj => ?_)
    rcases ho.2 with ⟨rfl, _⟩ | ⟨g, cap, cur, rfl, hg, hh, _⟩
    · simp [Value.ownBlock] at hj
    · simp only [Value.ownBlock, Option.some.injEq] at hj
      subst hj
      exact hk _ _ _ _ hg hh he
  exact ⟨own_typed h.l (.inl rfl), own_typed h.c (.inr rfl)⟩
theorem UrIn.kr {B R : Nat} {W W' : World} {x : UR} (h : UrIn B W x) (hk : Kr R W W') (hR : R < B) : UrIn B W' x :=
  h.keep (fun k cs t fr hB hb _ => hk.blk k (lt_of_block hb) (by omega))
/-- A step of the loop over units. -/
theorem UrIn.step {B R D fo k : Nat} {W w1 w4 : World} {x : UR} {v v' : Value} {row : List Value} {ob : Obj} {cs : List Value} {wa : World} {lk : List Nat} {b : Nat} (h : UrIn B W x) (hf : FAt R b D cs 25 fo 52 6 wa k row lk v W) (hRa : R < wa.heap.size) (hDR : D ≠ R) (hk : Kr R W w1) (hR : R < B) (hg : (w1.alloc ob).grownBy w4 v.ownBlock) : UrIn B (w4.setCell ⟨D, fo, none⟩ v') x := by
  have hD1 : w1.heap[D]? = some (.cells (cs.set fo v).toArray 25 (0, 0)) := (hk.blk D (lt_of_block hf.blk) hDR).trans hf.blk
  have hrow := hf.row hRa hk
  refine (h.kr hk hR).keep (fun j cs' t fr hB hb ht => ?_)
  have hne : j ≠ D := fun e => by
    subst e
    rw [hD1] at hb
    simp at hb
    rcases ht with rfl | rfl <;> exact absurd hb.2.1 (by decide)
  rw [Below.heap_setCell _ ⟨D, fo, none⟩ _ _ hne, hg.block j (by have := lt_of_block hb; simp; omega) (fun e => own_ty hrow hb (by rcases ht with rfl | rfl <;> decide) e.symm)]
  exact Below.heap_alloc _ _ _ (lt_of_block hb)

/-- A module in memory of one's own. -/
structure MdT (B : Nat) (W : World) (m : Im.Md) (ab au : Option Addr) (cb cu : Nat) : Prop where
  boxes : W.ownsRow B 48 2 (.slice ab m.boxes.length cb) m.boxes.length (m.boxes.flatMap boxc)
  units : ∃ us : List UR, us.map UR.u = m.units ∧ W.ownsRow B 52 6 (.slice au m.units.length cu) m.units.length (us.flatMap urc) ∧ ∀ x ∈ us, UrIn B W x

abbrev mdV (m : Im.Md) (ab au : Option Addr) (cb cu : Nat) : Value := .agg #[.slice ab m.boxes.length cb, .slice au m.units.length cu]

namespace Im
theorem rtwo_lt {l r : List Nat} {x : Int × Int} (h : rtwo l = some (x, r)) : r.length < l.length := by
  unfold rtwo at h
  obtain ⟨⟨a, l3⟩, h3, h⟩ := Option.bind_eq_some_iff.1 h
  obtain ⟨⟨c, l4⟩, h4, h⟩ := Option.bind_eq_some_iff.1 h
  simp at h
  obtain ⟨_, rfl⟩ := h
  have e2 := rn_lt h3
  have e3 := rn_lt h4
  simp only at e2 e3
  omega
theorem rcount_lt {l r : List Nat} {n : Int} (h : rcount l = some (n, r)) : r.length < l.length := by
  unfold rcount at h
  obtain ⟨⟨a, l3⟩, h3, h⟩ := Option.bind_eq_some_iff.1 h
  simp only at h
  split at h
  · simp at h
  simp at h
  obtain ⟨_, rfl⟩ := h
  exact rn_lt h3
theorem rbox_lt {l r : List Nat} {x : Bx} (h : rbox l = some (x, r)) : r.length < l.length := by
  unfold rbox at h
  obtain ⟨⟨a, l3⟩, h3, h⟩ := Option.bind_eq_some_iff.1 h
  simp at h
  obtain ⟨_, rfl⟩ := h
  exact rtwo_lt h3
theorem rep_le {α : Type} {f : List Nat → Option (α × List Nat)} (hf : ∀ l x r, f l = some (x, r) → r.length < l.length) : ∀ (n : Nat) (l : List Nat) (xs : List α) (r : List Nat), rep f n l = some (xs, r) → r.length ≤ l.length
  | 0, l, xs, r, h => by simp [rep] at h; rw [h.2]; exact Nat.le_refl _
  | n + 1, l, xs, r, h => by
    simp only [rep] at h
    obtain ⟨⟨x, l1⟩, h1, h⟩ := Option.bind_eq_some_iff.1 h
    obtain ⟨⟨ys, l2⟩, h2, h⟩ := Option.bind_eq_some_iff.1 h
    simp at h
    obtain ⟨_, rfl⟩ := h
    have e1 := hf _ _ _ h1
    have e2 := rep_le hf n _ _ _ h2
    simp only at e2
    omega
theorem runit_lt {l r : List Nat} {x : Un} (h : runit l = some (x, r)) : r.length < l.length := by
  unfold runit at h
  obtain ⟨⟨p, l1⟩, h1, h⟩ := Option.bind_eq_some_iff.1 h
  obtain ⟨⟨n, l2⟩, h2, h⟩ := Option.bind_eq_some_iff.1 h
  obtain ⟨⟨ls, l3⟩, h3, h⟩ := Option.bind_eq_some_iff.1 h
  obtain ⟨⟨q, l4⟩, h4, h⟩ := Option.bind_eq_some_iff.1 h
  obtain ⟨⟨k, l5⟩, h5, h⟩ := Option.bind_eq_some_iff.1 h
  obtain ⟨⟨cs, l6⟩, h6, h⟩ := Option.bind_eq_some_iff.1 h
  simp at h
  obtain ⟨_, rfl⟩ := h
  have e1 := rtwo_lt h1
  have e2 := rcount_lt h2
  have e3 := rep_le (fun _ _ _ => rn_lt) _ _ _ _ h3
  have e4 := rtwo_lt h4
  have e5 := rcount_lt h5
  have e6 := rep_le (fun _ _ _ => rins_lt) _ _ _ _ h6
  simp only at e1 e2 e3 e4 e5 e6
  omega
end Im









/-- The same for the unit that was read just now. -/
theorem un_step {B R D fo k : Nat} {W w1 w4 : World} {x : UR} {v v' : Value} {row : List Value} {ob : Obj} {cs : List Value} {wa : World} {lk : List Nat} {b : Nat} (h : UrIn B w1 x) (hf : FAt R b D cs 25 fo 52 6 wa k row lk v W) (hRa : R < wa.heap.size) (hDR : D ≠ R) (hk : Kr R W w1) (hg : (w1.alloc ob).grownBy w4 v.ownBlock) : UrIn B (w4.setCell ⟨D, fo, none⟩ v') x := by
  have hD1 : w1.heap[D]? = some (.cells (cs.set fo v).toArray 25 (0, 0)) := (hk.blk D (lt_of_block hf.blk) hDR).trans hf.blk
  have hrow := hf.row hRa hk
  refine h.keep (fun j cs' t fr hB hb ht => ?_)
  have hne : j ≠ D := fun e => by
    subst e
    rw [hD1] at hb
    simp at hb
    rcases ht with rfl | rfl <;> exact absurd hb.2.1 (by decide)
  rw [Below.heap_setCell _ ⟨D, fo, none⟩ _ _ hne, hg.block j (by have := lt_of_block hb; simp; omega) (fun e => own_ty hrow hb (by rcases ht with rfl | rfl <;> decide) e.symm)]
  exact Below.heap_alloc _ _ _ (lt_of_block hb)

theorem set2_far (w : World) (N : Nat) (u v : Value) {k : Nat} (hk : k ≠ N) : ((w.setCell ⟨N, 0, none⟩ u).setCell ⟨N, 1, none⟩ v).heap[k]? = w.heap[k]? := by
  rw [Below.heap_setCell _ ⟨N, 1, none⟩ _ _ hk, Below.heap_setCell _ ⟨N, 0, none⟩ _ _ hk]

/-- What comes of the reading of a module. -/
def RfM (R : Nat) (w : World) (r : Option Im.Md) (e : Ending) (w' : World) : Prop :=
  Kr R w w' ∧ match r with
    | none => e = .panicked [fltE 2 0]
    | some m => ∃ ab cb au cu, e = .returned (mdV m ab au cb cu) ∧ MdT w.heap.size w' m ab au cb cu

set_option maxRecDepth 100000 in
set_option maxHeartbeats 8000000 in
theorem module_r (R b : Nat) (l : List Nat) (w : World) (h : Hid (RD w R b l)) (r : Option Im.Md) (hr : Hid (r = Im.rmod l)) :
    Calls Try.prog 21 #[.pointer (some ⟨R, 0, none⟩)] w fun e w' => RfM R w r e w' := by
  obtain ⟨i0, hi, hz0, hz1, hz2⟩ := info_parts Try.info48
  obtain ⟨i1, hj, hy0, hy1, hy2⟩ := info_parts Try.info52
  have hlR := h.out.ltR
  have hlb := h.out.lt
  have hDR : w.heap.size ≠ R := by omega
  have hDb : w.heap.size ≠ b := by omega
  have HRD : Hid (RD (w.alloc (.cells [Value.slice none 0 0, .slice none 0 0].toArray 25)) R b l) := h.out.alloc _
  have HKR : Hid (Kr R w (w.alloc (.cells [Value.slice none 0 0, .slice none 0 0].toArray 25))) := (Kr.refl R w).alloc _
  have HD0 : Hid ((w.alloc (.cells [Value.slice none 0 0, .slice none 0 0].toArray 25)).heap[w.heap.size]? = some (.cells [Value.slice none 0 0, .slice none 0 0].toArray 25 (0, 0))) := heap_alloc_new w _
  obtain ⟨q, hq⟩ : ∃ q, q = Im.rcount l := ⟨_, rfl⟩
  have HQ := hide hq
  have HC2 : Hid (r = q.bind fun n => (Im.rep Im.rbox n.1.toNat n.2).bind fun bs => (Im.rcount bs.2).bind fun k => (Im.rep Im.runit k.1.toNat k.2).bind fun us => if us.2 = [] then some ⟨bs.1, us.1⟩ else none) := by unfold Hid; rw [hr.out, hq]; rfl
  clear hq hr
  go_enter Try.func21, Try.ntmps21
  go_wp2_with fail
  refine (count_r R b l _ HRD q HQ).mono ?_
  rintro e w3 ⟨hk, hm⟩
  have HKa : Hid (Kr R w w3) := HKR.out.trans hk
  have HD3 : Hid (w3.heap[w.heap.size]? = some (.cells [Value.slice none 0 0, .slice none 0 0].toArray 25 (0, 0))) := (hk.blk _ (lt_of_block HD0.out) hDR).trans HD0.out
  clear hk HRD HKR HD0
  cases q with
  | none =>
    have HR : Hid (r = none) := HC2.out
    obtain rfl : e = .panicked [fltE 2 0] := hm
    go_wp2
    exact ⟨rfl, HKa.out, by rw [HR.out]⟩
  | some p =>
  obtain ⟨n, l2⟩ := p
  obtain ⟨rfl, hrd⟩ := hm
  have hn0 := Im.rcount_pos HQ.out.symm
  obtain ⟨nn, rfl⟩ : ∃ nn : Nat, n = nn := ⟨n.toNat, by omega⟩
  have hfew := hrd.few
  have HFS := hide (FAt.start (D := w.heap.size) (fo := 0) 48 2 hrd HD3.out rfl)
  have hs3 := HKa.out.size
  have hRa : R < w3.heap.size := by omega
  have hba : b < w3.heap.size := by omega
  obtain ⟨q2, hq2⟩ : ∃ q, q = Im.rep Im.rbox nn l2 := ⟨_, rfl⟩
  have HC3 : Hid (r = q2.bind fun bs => (Im.rcount bs.2).bind fun k => (Im.rep Im.runit k.1.toNat k.2).bind fun us => if us.2 = [] then some ⟨bs.1, us.1⟩ else none) := by unfold Hid; rw [HC2.out, hq2]; rfl
  have HQ2 := hide hq2
  clear hq2 HC2 HQ hrd hn0
  go_wp2
  go_loopw [5] (fun i wr => ∃ (k : Nat) (xs : List Im.Bx) (lk : List Nat) (v : Value), i = .int .i64 k ∧ Im.RepAt Im.rbox nn l2 k xs lk ∧ FAt R b w.heap.size [Value.slice none 0 0, .slice none 0 0] 25 0 48 2 w3 k (xs.flatMap boxc) lk v wr) (fun i _ => nn - (intOf i).toNat)
  case atStart => exact ⟨0, [], l2, _, rfl, Im.RepAt.start _ _ _, HFS.out⟩
  case round =>
    obtain ⟨k, xs, lk, v, rfl, hA, hF⟩ := hrel
    have HA := hide hA
    have HF := hide hF
    have hk := hA.le
    have hused := hA.used
    have hsr := hF.kr.size
    clear hA hF HFS
    by_cases hlt : k < nn
    · obtain ⟨cD0, fD0⟩ := HF.out.cell (by simp) hDR (Kr.refl R wr)
      have n1 : (k : Int) < (nn : Int) := by omega
      cases hn : Im.rbox lk with
      | none =>
        have HR : Hid (r = none) := by unfold Hid; rw [HC3.out, HQ2.out, HA.out.stop hlt hn]; rfl
        have HN : Hid (none = Im.rbox lk) := hn.symm
        clear hn
        go_wp2
        refine wp_region_any (by kernel_rfl) ?_
        change wpAny _ _ _ _ _ _ _ (World.drew _)
        refine wpAny_take (i := 0) (v := .pointer (some ⟨w.heap.size, 0, none⟩)) rfl (by kernel_rfl) (by kernel_rfl) (by kernel_rfl) (fun _ _ _ h => h) (Or.inl ⟨by rfl, ?_⟩) ?_
        · intro w; go_simp
        simp only [Act.put]
        refine wpAny_take (i := 2) (v := .pointer (some ⟨R, 0, none⟩)) rfl (by kernel_rfl) (by kernel_rfl) (by kernel_rfl) (fun _ _ _ h => h) (Or.inl ⟨by rfl, ?_⟩) ?_
        · intro w; go_simp
        simp only [Act.put]
        refine wpAny_ready (rs := [1, 3]) (by kernel_rfl) (by simp) ?_
        refine AllReady.cons rfl (fun K hK => ?_) ?_
        · go_simp
          refine hK _ _ ?_
          clear hK K
          refine wpAny_ready (rs := [3]) (by kernel_rfl) (by simp) ?_
          refine AllReady.cons rfl (fun K hK => ?_) ?_
          · go_simp
            refine (box_r R b lk _ (hide HF.out.rd.drew) none HN).mono ?_
            rintro e w1 ⟨hk1, rfl⟩
            exact ⟨rfl, (HF.out.kr.trans hk1.undrew.two).one HKa.out (Nat.le_refl _), by rw [HR.out]⟩
          exact AllReady.nil
        refine AllReady.cons rfl (fun K hK => ?_) ?_
        · go_simp
          refine (box_r R b lk _ (hide HF.out.rd.drew) none HN).mono ?_
          rintro e w1 ⟨hk1, rfl⟩
          exact ⟨rfl, (HF.out.kr.trans hk1.undrew.two).one HKa.out (Nat.le_refl _), by rw [HR.out]⟩
        exact AllReady.nil
      | some p =>
        obtain ⟨x, l1⟩ := p
        have HN : Hid (some (x, l1) = Im.rbox lk) := hn.symm
        have HNX := hide (HA.out.next hlt hn (Im.rbox_lt hn))
        clear hn
        go_wp2
        refine wp_region_any (by kernel_rfl) ?_
        change wpAny _ _ _ _ _ _ _ (World.drew _)
        refine wpAny_take (i := 0) (v := .pointer (some ⟨w.heap.size, 0, none⟩)) rfl (by kernel_rfl) (by kernel_rfl) (by kernel_rfl) (fun _ _ _ h => h) (Or.inl ⟨by rfl, ?_⟩) ?_
        · intro w; go_simp
        simp only [Act.put]
        refine wpAny_take (i := 2) (v := .pointer (some ⟨R, 0, none⟩)) rfl (by kernel_rfl) (by kernel_rfl) (by kernel_rfl) (fun _ _ _ h => h) (Or.inl ⟨by rfl, ?_⟩) ?_
        · intro w; go_simp
        simp only [Act.put]
        refine wpAny_ready (rs := [1, 3]) (by kernel_rfl) (by simp) ?_
        refine AllReady.cons rfl (fun K hK => ?_) ?_
        · go_simp
          refine hK _ _ ?_
          clear hK K
          refine wpAny_ready (rs := [3]) (by kernel_rfl) (by simp) ?_
          refine AllReady.cons rfl (fun K hK => ?_) ?_
          · go_simp
            refine (box_r R b lk _ (hide HF.out.rd.drew) (some (x, l1)) HN).mono ?_
            rintro e w1 ⟨hk1, rfl, hrd1⟩
            have HK1 : Hid (Kr R wr w1) := hk1.undrew
            have HRD1 := hide hrd1
            obtain ⟨cD, fD⟩ := HF.out.cell (by simp) hDR HK1.out
            have hsw := HK1.out.size
            have hDl : w.heap.size < w1.heap.size := Nat.lt_of_lt_of_le (lt_of_block HF.out.blk) hsw
            clear hk1 hrd1
            refine hK _ _ ?_
            clear hK K
            refine wpAny_ready (rs := [4]) (by kernel_rfl) (by simp) ?_
            refine AllReady.cons rfl (fun K hK => ?_) ?_
            · go_simp
              refine hK _ _ ?_
              clear hK K
              refine wpAny_ready (rs := [5]) (by kernel_rfl) (by simp) ?_
              refine AllReady.cons rfl (fun K hK => ?_) ?_
              · skip
                refine step_append_own rfl (.tmp 8) (.tmp 11) 22 rfl w3.heap.size 48 i0 (.agg #[.int .i64 0, .int .i64 0]) 2 16 Try.underlying22 hi hz0 hz1 hz2 rfl (by decide) v k (xs.flatMap boxc) rfl ((HF.out.row hRa HK1.out).alloc _) ⟨w1.heap.size, 0, none⟩ 1 1 (boxc x) rfl rfl (news_at w1 (boxc x) _) (all_one rfl) (by unfold maxLen; omega) (by omega) (by simp; omega) ?_
                intro v' w4 hown4 hg4
                obtain ⟨hf4, cD4, fD4⟩ := HF.out.step hDR hDb hRa hba (by decide) HK1.out HRD1.out hown4 hg4
                have cD5 := cD4.trans cD
                rw [← flat_snoc] at hf4
                obtain ⟨a', c', hv'⟩ := own_form hown4
                subst hv'
                have HF4 := hide hf4
                clear hown4 hg4 hf4 cD4
                refine hK _ _ ?_
                clear hK K
                simp only [Act.put]
                refine wpAny_take (i := 6) (v := .pointer (some ⟨w.heap.size, 0, none⟩)) rfl (by kernel_rfl) (by kernel_rfl) (by kernel_rfl) (fun _ _ _ h => h) (Or.inl ⟨by rfl, ?_⟩) ?_
                · intro w; go_simp
                simp only [Act.put]
                refine wpAny_ready (rs := [7]) (by kernel_rfl) (by simp) ?_
                refine AllReady.cons rfl (fun K hK => ?_) ?_
                · go_simp
                  refine hK _ _ ?_
                  clear hK K
                  refine wpAny_done (by kernel_rfl) ?_ _
                  go_wp2
                  go_roundw
                  case rel => exact ⟨k + 1, xs ++ [x], l1, _, by go_num, HNX.out, HF4.out⟩
                  case measure => simp [intOf]; omega
                exact AllReady.nil
              exact AllReady.nil
            exact AllReady.nil
          exact AllReady.nil
        refine AllReady.cons rfl (fun K hK => ?_) ?_
        · go_simp
          refine (box_r R b lk _ (hide HF.out.rd.drew) (some (x, l1)) HN).mono ?_
          rintro e w1 ⟨hk1, rfl, hrd1⟩
          have HK1 : Hid (Kr R wr w1) := hk1.undrew
          have HRD1 := hide hrd1
          obtain ⟨cD, fD⟩ := HF.out.cell (by simp) hDR HK1.out
          have hsw := HK1.out.size
          have hDl : w.heap.size < w1.heap.size := Nat.lt_of_lt_of_le (lt_of_block HF.out.blk) hsw
          clear hk1 hrd1
          refine hK _ _ ?_
          clear hK K
          refine wpAny_ready (rs := [1, 4]) (by kernel_rfl) (by simp) ?_
          refine AllReady.cons rfl (fun K hK => ?_) ?_
          · go_simp
            refine hK _ _ ?_
            clear hK K
            refine wpAny_ready (rs := [4]) (by kernel_rfl) (by simp) ?_
            refine AllReady.cons rfl (fun K hK => ?_) ?_
            · go_simp
              refine hK _ _ ?_
              clear hK K
              refine wpAny_ready (rs := [5]) (by kernel_rfl) (by simp) ?_
              refine AllReady.cons rfl (fun K hK => ?_) ?_
              · skip
                refine step_append_own rfl (.tmp 8) (.tmp 11) 22 rfl w3.heap.size 48 i0 (.agg #[.int .i64 0, .int .i64 0]) 2 16 Try.underlying22 hi hz0 hz1 hz2 rfl (by decide) v k (xs.flatMap boxc) rfl ((HF.out.row hRa HK1.out).alloc _) ⟨w1.heap.size, 0, none⟩ 1 1 (boxc x) rfl rfl (news_at w1 (boxc x) _) (all_one rfl) (by unfold maxLen; omega) (by omega) (by simp; omega) ?_
                intro v' w4 hown4 hg4
                obtain ⟨hf4, cD4, fD4⟩ := HF.out.step hDR hDb hRa hba (by decide) HK1.out HRD1.out hown4 hg4
                have cD5 := cD4.trans cD
                rw [← flat_snoc] at hf4
                obtain ⟨a', c', hv'⟩ := own_form hown4
                subst hv'
                have HF4 := hide hf4
                clear hown4 hg4 hf4 cD4
                refine hK _ _ ?_
                clear hK K
                simp only [Act.put]
                refine wpAny_take (i := 6) (v := .pointer (some ⟨w.heap.size, 0, none⟩)) rfl (by kernel_rfl) (by kernel_rfl) (by kernel_rfl) (fun _ _ _ h => h) (Or.inl ⟨by rfl, ?_⟩) ?_
                · intro w; go_simp
                simp only [Act.put]
                refine wpAny_ready (rs := [7]) (by kernel_rfl) (by simp) ?_
                refine AllReady.cons rfl (fun K hK => ?_) ?_
                · go_simp
                  refine hK _ _ ?_
                  clear hK K
                  refine wpAny_done (by kernel_rfl) ?_ _
                  go_wp2
                  go_roundw
                  case rel => exact ⟨k + 1, xs ++ [x], l1, _, by go_num, HNX.out, HF4.out⟩
                  case measure => simp [intOf]; omega
                exact AllReady.nil
              exact AllReady.nil
            exact AllReady.nil
          refine AllReady.cons rfl (fun K hK => ?_) ?_
          · go_simp
            refine hK _ _ ?_
            clear hK K
            refine wpAny_ready (rs := [1]) (by kernel_rfl) (by simp) ?_
            refine AllReady.cons rfl (fun K hK => ?_) ?_
            · go_simp
              refine hK _ _ ?_
              clear hK K
              refine wpAny_ready (rs := [5]) (by kernel_rfl) (by simp) ?_
              refine AllReady.cons rfl (fun K hK => ?_) ?_
              · skip
                refine step_append_own rfl (.tmp 8) (.tmp 11) 22 rfl w3.heap.size 48 i0 (.agg #[.int .i64 0, .int .i64 0]) 2 16 Try.underlying22 hi hz0 hz1 hz2 rfl (by decide) v k (xs.flatMap boxc) rfl ((HF.out.row hRa HK1.out).alloc _) ⟨w1.heap.size, 0, none⟩ 1 1 (boxc x) rfl rfl (news_at w1 (boxc x) _) (all_one rfl) (by unfold maxLen; omega) (by omega) (by simp; omega) ?_
                intro v' w4 hown4 hg4
                obtain ⟨hf4, cD4, fD4⟩ := HF.out.step hDR hDb hRa hba (by decide) HK1.out HRD1.out hown4 hg4
                have cD5 := cD4.trans cD
                rw [← flat_snoc] at hf4
                obtain ⟨a', c', hv'⟩ := own_form hown4
                subst hv'
                have HF4 := hide hf4
                clear hown4 hg4 hf4 cD4
                refine hK _ _ ?_
                clear hK K
                simp only [Act.put]
                refine wpAny_take (i := 6) (v := .pointer (some ⟨w.heap.size, 0, none⟩)) rfl (by kernel_rfl) (by kernel_rfl) (by kernel_rfl) (fun _ _ _ h => h) (Or.inl ⟨by rfl, ?_⟩) ?_
                · intro w; go_simp
                simp only [Act.put]
                refine wpAny_ready (rs := [7]) (by kernel_rfl) (by simp) ?_
                refine AllReady.cons rfl (fun K hK => ?_) ?_
                · go_simp
                  refine hK _ _ ?_
                  clear hK K
                  refine wpAny_done (by kernel_rfl) ?_ _
                  go_wp2
                  go_roundw
                  case rel => exact ⟨k + 1, xs ++ [x], l1, _, by go_num, HNX.out, HF4.out⟩
                  case measure => simp [intOf]; omega
                exact AllReady.nil
              exact AllReady.nil
            exact AllReady.nil
          exact AllReady.nil
        exact AllReady.nil
    · obtain rfl : k = nn := by omega
      have HLEN := hide HA.out.len
      obtain rfl : q2 = some (xs, lk) := by rw [HQ2.out, HA.out.done]
      have hown := own_base HF.out.own hs3
      obtain ⟨ab, cb, hv⟩ := own_form hown
      subst hv
      have HOWB : Hid (wr.ownsRow w.heap.size 48 2 (.slice ab k cb) k (xs.flatMap boxc)) := hown
      have HK : Hid (Kr R w wr) := HF.out.kr.one HKa.out (Nat.le_refl _)
      have HDr : Hid (wr.heap[w.heap.size]? = some (.cells [Value.slice ab k cb, .slice none 0 0].toArray 25 (0, 0))) := HF.out.blk
      have HRDr := hide HF.out.rd
      obtain ⟨q, hq⟩ : ∃ q, q = Im.rcount lk := ⟨_, rfl⟩
      have HQ := hide hq
      have HC5 : Hid (r = q.bind fun n => (Im.rep Im.runit n.1.toNat n.2).bind fun us => if us.2 = [] then some ⟨xs, us.1⟩ else none) := by unfold Hid; rw [HC3.out, hq]; rfl
      clear hq hown HC3 HQ2 HA HF HD3 HKa hsr hlt
      go_wp2_with fail
      refine (count_r R b lk _ HRDr q HQ).mono ?_
      rintro e w6 ⟨hk6, hm⟩
      have HKa : Hid (Kr R w w6) := HK.out.trans hk6
      have HD6 : Hid (w6.heap[w.heap.size]? = some (.cells [Value.slice ab k cb, .slice none 0 0].toArray 25 (0, 0))) := (hk6.blk _ (lt_of_block HDr.out) hDR).trans HDr.out
      have HOWB6 : Hid (w6.ownsRow w.heap.size 48 2 (.slice ab k cb) k (xs.flatMap boxc)) := own_kr2 HOWB.out (hk6.two (D := w.heap.size)) hlR HDr.out (by decide)
      clear hk6 HDr HRDr HK HOWB
      cases q with
      | none =>
        have HR : Hid (r = none) := HC5.out
        obtain rfl : e = .panicked [fltE 2 0] := hm
        go_wp2
        exact ⟨rfl, HKa.out, by rw [HR.out]⟩
      | some p =>
      obtain ⟨n, l4⟩ := p
      obtain ⟨rfl, hrd⟩ := hm
      have hn0 := Im.rcount_pos HQ.out.symm
      obtain ⟨nk, rfl⟩ : ∃ nk : Nat, n = nk := ⟨n.toNat, by omega⟩
      have hfew4 := hrd.few
      have HFS := hide (FAt.start (D := w.heap.size) (fo := 1) 52 6 hrd HD6.out rfl)
      have hs6 := HKa.out.size
      clear hRa hba
      have hRa : R < w6.heap.size := by omega
      have hba : b < w6.heap.size := by omega
      obtain ⟨q2, hq2⟩ : ∃ q, q = Im.rep Im.runit nk l4 := ⟨_, rfl⟩
      have HC6 : Hid (r = q2.bind fun us => if us.2 = [] then some ⟨xs, us.1⟩ else none) := by unfold Hid; rw [HC5.out, hq2]; rfl
      have HQ2 := hide hq2
      obtain ⟨ys, hys⟩ : ∃ ys, ys = xs := ⟨_, rfl⟩
      rw [← hys] at HLEN HC6 HOWB6
      obtain ⟨kk, hkk⟩ : ∃ kk, kk = k := ⟨_, rfl⟩
      rw [← hkk] at HLEN HFS HOWB6 HD6
      clear hq2 HC5 HQ hrd hn0 hys hkk
      generalize wr = W at *
      go_wp2
      go_loopw [17] (fun i wr => ∃ (k : Nat) (us : List UR) (lk : List Nat) (v : Value), i = .int .i64 k ∧ Im.RepAt Im.runit nk l4 k (us.map UR.u) lk ∧ (∀ x ∈ us, UrIn w.heap.size wr x) ∧ FAt R b w.heap.size [Value.slice ab kk cb, .slice none 0 0] 25 1 52 6 w6 k (us.flatMap urc) lk v wr) (fun i _ => nk - (intOf i).toNat)
      case atStart => exact ⟨0, [], l4, _, rfl, Im.RepAt.start _ _ _, fun x hx => by simp at hx, HFS.out⟩
      case round =>
        obtain ⟨k, us, lk, v, rfl, hA, hU, hF⟩ := hrel
        have HA := hide hA
        have HF := hide hF
        have HUS := hide hU
        have hk := hA.le
        have hused := hA.used
        have hsr := hF.kr.size
        have hwr : w.heap.size ≤ wr.heap.size := by omega
        clear hA hF HFS hU
        by_cases hlt : k < nk
        · obtain ⟨cD0, fD0⟩ := HF.out.cell (by simp) hDR (Kr.refl R wr)
          have n1 : (k : Int) < (nk : Int) := by omega
          cases hn : Im.runit lk with
          | none =>
            have HR : Hid (r = none) := by unfold Hid; rw [HC6.out, HQ2.out, HA.out.stop hlt hn]; rfl
            have HN : Hid (none = Im.runit lk) := hn.symm
            clear hn
            go_wp2
            refine wp_region_any (by kernel_rfl) ?_
            change wpAny _ _ _ _ _ _ _ (World.drew _)
            refine wpAny_take (i := 0) (v := .pointer (some ⟨w.heap.size, 1, none⟩)) rfl (by kernel_rfl) (by kernel_rfl) (by kernel_rfl) (fun _ _ _ h => h) (Or.inl ⟨by rfl, ?_⟩) ?_
            · intro w; go_simp
            simp only [Act.put]
            refine wpAny_take (i := 2) (v := .pointer (some ⟨R, 0, none⟩)) rfl (by kernel_rfl) (by kernel_rfl) (by kernel_rfl) (fun _ _ _ h => h) (Or.inl ⟨by rfl, ?_⟩) ?_
            · intro w; go_simp
            simp only [Act.put]
            refine wpAny_ready (rs := [1, 3]) (by kernel_rfl) (by simp) ?_
            refine AllReady.cons rfl (fun K hK => ?_) ?_
            · go_simp
              refine hK _ _ ?_
              clear hK K
              refine wpAny_ready (rs := [3]) (by kernel_rfl) (by simp) ?_
              refine AllReady.cons rfl (fun K hK => ?_) ?_
              · go_simp
                refine (unit_r R b lk _ (hide HF.out.rd.drew) none HN).mono ?_
                rintro e w1 ⟨hk1, rfl⟩
                exact ⟨rfl, (HF.out.kr.trans hk1.undrew.two).one HKa.out (Nat.le_refl _), by rw [HR.out]⟩
              exact AllReady.nil
            refine AllReady.cons rfl (fun K hK => ?_) ?_
            · go_simp
              refine (unit_r R b lk _ (hide HF.out.rd.drew) none HN).mono ?_
              rintro e w1 ⟨hk1, rfl⟩
              exact ⟨rfl, (HF.out.kr.trans hk1.undrew.two).one HKa.out (Nat.le_refl _), by rw [HR.out]⟩
            exact AllReady.nil
          | some p =>
            obtain ⟨x, l1⟩ := p
            have HN : Hid (some (x, l1) = Im.runit lk) := hn.symm
            have HNX := hide (HA.out.next hlt hn (Im.runit_lt hn))
            clear hn
            go_wp2
            refine wp_region_any (by kernel_rfl) ?_
            change wpAny _ _ _ _ _ _ _ (World.drew _)
            refine wpAny_take (i := 0) (v := .pointer (some ⟨w.heap.size, 1, none⟩)) rfl (by kernel_rfl) (by kernel_rfl) (by kernel_rfl) (fun _ _ _ h => h) (Or.inl ⟨by rfl, ?_⟩) ?_
            · intro w; go_simp
            simp only [Act.put]
            refine wpAny_take (i := 2) (v := .pointer (some ⟨R, 0, none⟩)) rfl (by kernel_rfl) (by kernel_rfl) (by kernel_rfl) (fun _ _ _ h => h) (Or.inl ⟨by rfl, ?_⟩) ?_
            · intro w; go_simp
            simp only [Act.put]
            refine wpAny_ready (rs := [1, 3]) (by kernel_rfl) (by simp) ?_
            refine AllReady.cons rfl (fun K hK => ?_) ?_
            · go_simp
              refine hK _ _ ?_
              clear hK K
              refine wpAny_ready (rs := [3]) (by kernel_rfl) (by simp) ?_
              refine AllReady.cons rfl (fun K hK => ?_) ?_
              · go_simp
                refine (unit_r R b lk _ (hide HF.out.rd.drew) (some (x, l1)) HN).mono ?_
                rintro e w1 ⟨hk1, ⟨al, cl, ac, cc, rfl, ho1, ho2⟩, hrd1⟩
                have HK1 : Hid (Kr R wr w1) := hk1.undrew
                have HRD1 := hide hrd1
                have HUN : Hid (UrIn w.heap.size w1 ⟨x, al, cl, ac, cc⟩) := ⟨own_base ho1 hwr, own_base ho2 hwr⟩
                obtain ⟨cD, fD⟩ := HF.out.cell (by simp) hDR HK1.out
                have hsw := HK1.out.size
                have hDl : w.heap.size < w1.heap.size := Nat.lt_of_lt_of_le (lt_of_block HF.out.blk) hsw
                clear hk1 hrd1 ho1 ho2
                refine hK _ _ ?_
                clear hK K
                refine wpAny_ready (rs := [4]) (by kernel_rfl) (by simp) ?_
                refine AllReady.cons rfl (fun K hK => ?_) ?_
                · go_simp
                  refine hK _ _ ?_
                  clear hK K
                  refine wpAny_ready (rs := [5]) (by kernel_rfl) (by simp) ?_
                  refine AllReady.cons rfl (fun K hK => ?_) ?_
                  · skip
                    refine step_append_own rfl (.tmp 20) (.tmp 23) 23 rfl w6.heap.size 52 i1 (.agg #[.int .i64 0, .int .i64 0, .slice none 0 0, .int .i64 0, .int .i64 0, .slice none 0 0]) 6 80 Try.underlying23 hj hy0 hy1 hy2 rfl (by decide) v k (us.flatMap urc) rfl ((HF.out.row hRa HK1.out).alloc _) ⟨w1.heap.size, 0, none⟩ 1 1 (urc ⟨x, al, cl, ac, cc⟩) rfl rfl (news_at w1 (urc ⟨x, al, cl, ac, cc⟩) _) (all_one rfl) (by unfold maxLen; omega) (by omega) (by simp; omega) ?_
                    intro v' w4 hown4 hg4
                    obtain ⟨hf4, cD4, fD4⟩ := HF.out.step hDR hDb hRa hba (by decide) HK1.out HRD1.out hown4 hg4
                    have cD5 := cD4.trans cD
                    rw [← flat_snoc] at hf4
                    have HUS4 : Hid (∀ y ∈ us ++ [⟨x, al, cl, ac, cc⟩], UrIn w.heap.size (w4.setCell ⟨w.heap.size, 1, none⟩ v') y) := fun y hy => by rcases List.mem_append.1 hy with hy | hy <;> first | exact (HUS.out y hy).step HF.out hRa hDR HK1.out hlR hg4 | (simp at hy; subst hy; exact un_step HUN.out HF.out hRa hDR HK1.out hg4)
                    obtain ⟨a', c', hv'⟩ := own_form hown4
                    subst hv'
                    have HF4 := hide hf4
                    clear hown4 hg4 hf4 cD4
                    refine hK _ _ ?_
                    clear hK K
                    simp only [Act.put]
                    refine wpAny_take (i := 6) (v := .pointer (some ⟨w.heap.size, 1, none⟩)) rfl (by kernel_rfl) (by kernel_rfl) (by kernel_rfl) (fun _ _ _ h => h) (Or.inl ⟨by rfl, ?_⟩) ?_
                    · intro w; go_simp
                    simp only [Act.put]
                    refine wpAny_ready (rs := [7]) (by kernel_rfl) (by simp) ?_
                    refine AllReady.cons rfl (fun K hK => ?_) ?_
                    · go_simp
                      refine hK _ _ ?_
                      clear hK K
                      refine wpAny_done (by kernel_rfl) ?_ _
                      go_wp2
                      go_roundw
                      case rel => exact ⟨k + 1, us ++ [⟨x, al, cl, ac, cc⟩], l1, _, by go_num, by rw [List.map_append]; exact HNX.out, HUS4.out, HF4.out⟩
                      case measure => simp [intOf]; omega
                    exact AllReady.nil
                  exact AllReady.nil
                exact AllReady.nil
              exact AllReady.nil
            refine AllReady.cons rfl (fun K hK => ?_) ?_
            · go_simp
              refine (unit_r R b lk _ (hide HF.out.rd.drew) (some (x, l1)) HN).mono ?_
              rintro e w1 ⟨hk1, ⟨al, cl, ac, cc, rfl, ho1, ho2⟩, hrd1⟩
              have HK1 : Hid (Kr R wr w1) := hk1.undrew
              have HRD1 := hide hrd1
              have HUN : Hid (UrIn w.heap.size w1 ⟨x, al, cl, ac, cc⟩) := ⟨own_base ho1 hwr, own_base ho2 hwr⟩
              obtain ⟨cD, fD⟩ := HF.out.cell (by simp) hDR HK1.out
              have hsw := HK1.out.size
              have hDl : w.heap.size < w1.heap.size := Nat.lt_of_lt_of_le (lt_of_block HF.out.blk) hsw
              clear hk1 hrd1 ho1 ho2
              refine hK _ _ ?_
              clear hK K
              refine wpAny_ready (rs := [1, 4]) (by kernel_rfl) (by simp) ?_
              refine AllReady.cons rfl (fun K hK => ?_) ?_
              · go_simp
                refine hK _ _ ?_
                clear hK K
                refine wpAny_ready (rs := [4]) (by kernel_rfl) (by simp) ?_
                refine AllReady.cons rfl (fun K hK => ?_) ?_
                · go_simp
                  refine hK _ _ ?_
                  clear hK K
                  refine wpAny_ready (rs := [5]) (by kernel_rfl) (by simp) ?_
                  refine AllReady.cons rfl (fun K hK => ?_) ?_
                  · skip
                    refine step_append_own rfl (.tmp 20) (.tmp 23) 23 rfl w6.heap.size 52 i1 (.agg #[.int .i64 0, .int .i64 0, .slice none 0 0, .int .i64 0, .int .i64 0, .slice none 0 0]) 6 80 Try.underlying23 hj hy0 hy1 hy2 rfl (by decide) v k (us.flatMap urc) rfl ((HF.out.row hRa HK1.out).alloc _) ⟨w1.heap.size, 0, none⟩ 1 1 (urc ⟨x, al, cl, ac, cc⟩) rfl rfl (news_at w1 (urc ⟨x, al, cl, ac, cc⟩) _) (all_one rfl) (by unfold maxLen; omega) (by omega) (by simp; omega) ?_
                    intro v' w4 hown4 hg4
                    obtain ⟨hf4, cD4, fD4⟩ := HF.out.step hDR hDb hRa hba (by decide) HK1.out HRD1.out hown4 hg4
                    have cD5 := cD4.trans cD
                    rw [← flat_snoc] at hf4
                    have HUS4 : Hid (∀ y ∈ us ++ [⟨x, al, cl, ac, cc⟩], UrIn w.heap.size (w4.setCell ⟨w.heap.size, 1, none⟩ v') y) := fun y hy => by rcases List.mem_append.1 hy with hy | hy <;> first | exact (HUS.out y hy).step HF.out hRa hDR HK1.out hlR hg4 | (simp at hy; subst hy; exact un_step HUN.out HF.out hRa hDR HK1.out hg4)
                    obtain ⟨a', c', hv'⟩ := own_form hown4
                    subst hv'
                    have HF4 := hide hf4
                    clear hown4 hg4 hf4 cD4
                    refine hK _ _ ?_
                    clear hK K
                    simp only [Act.put]
                    refine wpAny_take (i := 6) (v := .pointer (some ⟨w.heap.size, 1, none⟩)) rfl (by kernel_rfl) (by kernel_rfl) (by kernel_rfl) (fun _ _ _ h => h) (Or.inl ⟨by rfl, ?_⟩) ?_
                    · intro w; go_simp
                    simp only [Act.put]
                    refine wpAny_ready (rs := [7]) (by kernel_rfl) (by simp) ?_
                    refine AllReady.cons rfl (fun K hK => ?_) ?_
                    · go_simp
                      refine hK _ _ ?_
                      clear hK K
                      refine wpAny_done (by kernel_rfl) ?_ _
                      go_wp2
                      go_roundw
                      case rel => exact ⟨k + 1, us ++ [⟨x, al, cl, ac, cc⟩], l1, _, by go_num, by rw [List.map_append]; exact HNX.out, HUS4.out, HF4.out⟩
                      case measure => simp [intOf]; omega
                    exact AllReady.nil
                  exact AllReady.nil
                exact AllReady.nil
              refine AllReady.cons rfl (fun K hK => ?_) ?_
              · go_simp
                refine hK _ _ ?_
                clear hK K
                refine wpAny_ready (rs := [1]) (by kernel_rfl) (by simp) ?_
                refine AllReady.cons rfl (fun K hK => ?_) ?_
                · go_simp
                  refine hK _ _ ?_
                  clear hK K
                  refine wpAny_ready (rs := [5]) (by kernel_rfl) (by simp) ?_
                  refine AllReady.cons rfl (fun K hK => ?_) ?_
                  · skip
                    refine step_append_own rfl (.tmp 20) (.tmp 23) 23 rfl w6.heap.size 52 i1 (.agg #[.int .i64 0, .int .i64 0, .slice none 0 0, .int .i64 0, .int .i64 0, .slice none 0 0]) 6 80 Try.underlying23 hj hy0 hy1 hy2 rfl (by decide) v k (us.flatMap urc) rfl ((HF.out.row hRa HK1.out).alloc _) ⟨w1.heap.size, 0, none⟩ 1 1 (urc ⟨x, al, cl, ac, cc⟩) rfl rfl (news_at w1 (urc ⟨x, al, cl, ac, cc⟩) _) (all_one rfl) (by unfold maxLen; omega) (by omega) (by simp; omega) ?_
                    intro v' w4 hown4 hg4
                    obtain ⟨hf4, cD4, fD4⟩ := HF.out.step hDR hDb hRa hba (by decide) HK1.out HRD1.out hown4 hg4
                    have cD5 := cD4.trans cD
                    rw [← flat_snoc] at hf4
                    have HUS4 : Hid (∀ y ∈ us ++ [⟨x, al, cl, ac, cc⟩], UrIn w.heap.size (w4.setCell ⟨w.heap.size, 1, none⟩ v') y) := fun y hy => by rcases List.mem_append.1 hy with hy | hy <;> first | exact (HUS.out y hy).step HF.out hRa hDR HK1.out hlR hg4 | (simp at hy; subst hy; exact un_step HUN.out HF.out hRa hDR HK1.out hg4)
                    obtain ⟨a', c', hv'⟩ := own_form hown4
                    subst hv'
                    have HF4 := hide hf4
                    clear hown4 hg4 hf4 cD4
                    refine hK _ _ ?_
                    clear hK K
                    simp only [Act.put]
                    refine wpAny_take (i := 6) (v := .pointer (some ⟨w.heap.size, 1, none⟩)) rfl (by kernel_rfl) (by kernel_rfl) (by kernel_rfl) (fun _ _ _ h => h) (Or.inl ⟨by rfl, ?_⟩) ?_
                    · intro w; go_simp
                    simp only [Act.put]
                    refine wpAny_ready (rs := [7]) (by kernel_rfl) (by simp) ?_
                    refine AllReady.cons rfl (fun K hK => ?_) ?_
                    · go_simp
                      refine hK _ _ ?_
                      clear hK K
                      refine wpAny_done (by kernel_rfl) ?_ _
                      go_wp2
                      go_roundw
                      case rel => exact ⟨k + 1, us ++ [⟨x, al, cl, ac, cc⟩], l1, _, by go_num, by rw [List.map_append]; exact HNX.out, HUS4.out, HF4.out⟩
                      case measure => simp [intOf]; omega
                    exact AllReady.nil
                  exact AllReady.nil
                exact AllReady.nil
              exact AllReady.nil
            exact AllReady.nil
        · obtain rfl : k = nk := by omega
          have HLEN2 : Hid (us.length = k) := by have := HA.out.len; rw [List.length_map] at this; exact this
          obtain rfl : q2 = some (us.map UR.u, lk) := by rw [HQ2.out, HA.out.done]
          have hown := own_base HF.out.own hs6
          obtain ⟨au, cu, hv⟩ := own_form hown
          subst hv
          have HOWU : Hid (wr.ownsRow w.heap.size 52 6 (.slice au k cu) k (us.flatMap urc)) := hown
          have HOWB : Hid (wr.ownsRow w.heap.size 48 2 (.slice ab kk cb) kk (ys.flatMap boxc)) := own_kr2 HOWB6.out HF.out.kr hlR HD6.out (by decide)
          have HK : Hid (Kr R w wr) := HF.out.kr.one HKa.out (Nat.le_refl _)
          have hDr : wr.heap[w.heap.size]? = some (.cells #[Value.slice ab kk cb, .slice au k cu] 25 (0, 0)) := HF.out.blk
          have HRDr := hide HF.out.rd
          have HDr := hide hDr
          obtain ⟨c0, c1, f0, f1⟩ := cells2_at hDr
          obtain ⟨o, c, hR, hcap, _⟩ := HRDr.out.row
          obtain ⟨cR, fR⟩ := rd_cell hR
          clear hown HQ2 HA HF HKa hsr hlt hDr HD6 HOWB6 hR
          cases lk with
          | cons z lk =>
            have HR : Hid (r = none) := by unfold Hid; rw [HC6.out]; rfl
            have e1 : (0 : Int) < (((z :: lk).length : Nat) : Int) := by simp
            go_wp2_with fail
            refine (fail_any _).mono ?_
            rintro e w7 ⟨rfl, rfl⟩
            go_wp2
            exact ⟨rfl, HK.out, by rw [HR.out]⟩
          | nil =>
            have HR : Hid (r = some ⟨ys, us.map UR.u⟩) := by unfold Hid; rw [HC6.out]; rfl
            simp only [List.length_nil] at cR
            go_wp2
            refine bodyPost_ret (v := .agg #[.slice ab kk cb, .slice au k cu]) (by simp [results, Try.results21, go_sem, c0, c1]) rfl ?_
            refine ⟨kr_set (kr_set HK.out (Nat.le_refl _) _ _) (Nat.le_refl _) _ _, ?_⟩
            rw [HR.out]
            refine ⟨ab, cb, au, cu, ?_, ?_, us, rfl, ?_, fun x hx => (HUS.out x hx).keep (fun j cs' t fr hB hb ht => set2_far _ _ _ _ (fun e => ?_))⟩
            · show _ = Ending.returned (.agg #[.slice ab ys.length cb, .slice au (us.map UR.u).length cu])
              rw [HLEN.out, List.length_map, HLEN2.out]
            · show World.ownsRow _ _ _ _ (.slice ab ys.length cb) ys.length (ys.flatMap boxc)
              rw [HLEN.out]
              exact own_keep HOWB.out (fun j hj => set2_far _ _ _ _ (fun e => by subst e; exact own_ty HOWB.out HDr.out (by decide) hj))
            · show World.ownsRow _ _ _ _ (.slice au (us.map UR.u).length cu) (us.map UR.u).length (us.flatMap urc)
              rw [List.length_map, HLEN2.out]
              exact own_keep HOWU.out (fun j hj => set2_far _ _ _ _ (fun e => by subst e; exact own_ty HOWU.out HDr.out (by decide) hj))
            · subst e
              rw [HDr.out] at hb
              simp at hb
              rcases ht with rfl | rfl <;> exact absurd hb.2.1 (by decide)

end Go.Proofs.Ytnfkfgpnojdfoaa
