/- The walk of reader.unit (its regions' trees are laid by tools/mkimage.py). -/
import Derived.Test.YtnfkfgpnojdfoaaIm16
namespace Go.Proofs.Ytnfkfgpnojdfoaa
open Go.RowKit

abbrev unV (u : Im.Un) (al ac : Option Addr) (cl cc : Nat) : Value := .agg #[.int .i64 u.kind, .int .i64 u.params, .slice al u.locals.length cl, .int .i64 u.result, .int .i64 u.takes, .slice ac u.code.length cc]
abbrev Run (w0 : World) (u : Im.Un) (w' : World) (e : Ending) : Prop := ∃ al cl ac cc, e = .returned (unV u al ac cl cc) ∧ w'.ownsRow w0.heap.size 3 1 (.slice al u.locals.length cl) u.locals.length (u.locals.flatMap intc) ∧ w'.ownsRow w0.heap.size 54 3 (.slice ac u.code.length cc) u.code.length (u.code.flatMap insc)

theorem own_kr2 {w w' : World} {B e size n R D : Nat} {v : Value} {xs : List Value} {cs : Array Value} {t : TypeId} {fr : Nat × Nat} (h : w.ownsRow B e size v n xs) (hk : Kr2 R D w w') (hR : R < B) (hD : w.heap[D]? = some (.cells cs t fr)) (ht : t ≠ e) : w'.ownsRow B e size v n xs :=
  own_keep h (fun j hj => hk.blk j (h.lt j hj).2 (by have := (h.lt j hj).1; omega) (fun e => by subst e; exact own_ty h hD ht hj))

theorem Im.rcount_pos {l r : List Nat} {n : Int} (h : Im.rcount l = some (n, r)) : 0 ≤ n := by
  unfold Im.rcount at h
  obtain ⟨p, h1, h⟩ := Option.bind_eq_some_iff.1 h
  split at h
  · simp at h
  · simp at h
    subst h
    simp at *
    omega
theorem Im.rins_lt {l r : List Nat} {x : Im.Ins} (h : Im.rins l = some (x, r)) : r.length < l.length := by
  unfold Im.rins at h
  obtain ⟨⟨p, l1⟩, h1, h⟩ := Option.bind_eq_some_iff.1 h
  obtain ⟨⟨q, l2⟩, h2, h⟩ := Option.bind_eq_some_iff.1 h
  simp at h
  obtain ⟨_, rfl⟩ := h
  unfold Im.rtwo at h1
  obtain ⟨⟨a, l3⟩, h3, h1⟩ := Option.bind_eq_some_iff.1 h1
  obtain ⟨⟨c, l4⟩, h4, h1⟩ := Option.bind_eq_some_iff.1 h1
  simp at h1
  obtain ⟨_, rfl⟩ := h1
  have e1 := Im.rn_lt h2
  have e2 := Im.rn_lt h3
  have e3 := Im.rn_lt h4
  simp only at e1 e2 e3
  omega
theorem flat_snoc {α : Type} (f : α → List Value) (xs : List α) (x : α) : (xs ++ [x]).flatMap f = xs.flatMap f ++ f x := by simp

abbrev Zu : List Value := [.int .i64 0, .int .i64 0, .slice none 0 0, .int .i64 0, .int .i64 0, .slice none 0 0]

theorem cells6_at {w : World} {N : Nat} {u v x y z q : Value} {t : TypeId} (h : w.heap[N]? = some (.cells [u, v, x, y, z, q].toArray t (0, 0))) : w.cell? ⟨N, 0, none⟩ = some u ∧ w.cell? ⟨N, 1, none⟩ = some v ∧ w.cell? ⟨N, 2, none⟩ = some x ∧ w.cell? ⟨N, 3, none⟩ = some y ∧ w.cell? ⟨N, 4, none⟩ = some z ∧ w.cell? ⟨N, 5, none⟩ = some q ∧ w.frozen? ⟨N, 0, none⟩ = false ∧ w.frozen? ⟨N, 1, none⟩ = false ∧ w.frozen? ⟨N, 2, none⟩ = false ∧ w.frozen? ⟨N, 3, none⟩ = false ∧ w.frozen? ⟨N, 4, none⟩ = false ∧ w.frozen? ⟨N, 5, none⟩ = false := by
  simp [World.cell?, World.frozen?, h]

abbrev six_set (w : World) (N : Nat) (u v x y z q : Value) : World := (((((w.setCell ⟨N, 0, none⟩ u).setCell ⟨N, 1, none⟩ v).setCell ⟨N, 2, none⟩ x).setCell ⟨N, 3, none⟩ y).setCell ⟨N, 4, none⟩ z).setCell ⟨N, 5, none⟩ q
theorem six_far (w : World) (N : Nat) (u v x y z q : Value) {k : Nat} (hk : k ≠ N) : (six_set w N u v x y z q).heap[k]? = w.heap[k]? := by
  unfold six_set
  rw [Below.heap_setCell _ ⟨N, 5, none⟩ _ _ hk, Below.heap_setCell _ ⟨N, 4, none⟩ _ _ hk, Below.heap_setCell _ ⟨N, 3, none⟩ _ _ hk, Below.heap_setCell _ ⟨N, 2, none⟩ _ _ hk, Below.heap_setCell _ ⟨N, 1, none⟩ _ _ hk, Below.heap_setCell _ ⟨N, 0, none⟩ _ _ hk]
theorem six_kr {R : Nat} {w w' : World} (h : Kr R w w') (u v x y z q : Value) : Kr R w (six_set w' w.heap.size u v x y z q) :=
  kr_set (kr_set (kr_set (kr_set (kr_set (kr_set h (Nat.le_refl _) _ _) (Nat.le_refl _) _ _) (Nat.le_refl _) _ _) (Nat.le_refl _) _ _) (Nat.le_refl _) _ _) (Nat.le_refl _) _ _
theorem six_rd {w : World} {R b N : Nat} {l : List Nat} (h : RD w R b l) (h1 : N ≠ R) (h2 : N ≠ b) (u v x y z q : Value) : RD (six_set w N u v x y z q) R b l :=
  h.far (six_far _ _ _ _ _ _ _ _ (fun e => h1 e.symm)) (six_far _ _ _ _ _ _ _ _ (fun e => h2 e.symm)) (by simp [six_set, World.setCell])
theorem six_own {w : World} {B e size n N : Nat} {val : Value} {xs : List Value} {cs : Array Value} {t : TypeId} {fr : Nat × Nat} (h : w.ownsRow B e size val n xs) (hN : w.heap[N]? = some (.cells cs t fr)) (ht : t ≠ e) (u v x y z q : Value) : (six_set w N u v x y z q).ownsRow B e size val n xs :=
  own_keep h (fun k hk => six_far _ _ _ _ _ _ _ _ (fun e => by subst e; exact own_ty h hN ht hk))









set_option maxRecDepth 100000 in
set_option maxHeartbeats 8000000 in
theorem unit_r (R b : Nat) (l : List Nat) (w : World) (h : Hid (RD w R b l)) (r : Option (Im.Un × List Nat)) (hr : Hid (r = Im.runit l)) :
    Calls Try.prog 31 #[.pointer (some ⟨R, 0, none⟩)] w fun e w' => Rf R b (Run w) w r e w' := by
  obtain ⟨i0, hi, hz0, hz1, hz2⟩ := info_parts Try.info3
  obtain ⟨i1, hj, hy0, hy1, hy2⟩ := info_parts Try.info54
  have hlR := h.out.ltR
  have hlb := h.out.lt
  have hDR : w.heap.size ≠ R := by omega
  have hDb : w.heap.size ≠ b := by omega
  have HRD : Hid (RD ((w.alloc (.cells Zu.toArray 52)).alloc (.cells #[.pointer (some ⟨w.heap.size, 0, none⟩), .pointer (some ⟨w.heap.size, 1, none⟩)] 74)) R b l) := (h.out.alloc _).alloc _
  have HKR : Hid (Kr R w ((w.alloc (.cells Zu.toArray 52)).alloc (.cells #[.pointer (some ⟨w.heap.size, 0, none⟩), .pointer (some ⟨w.heap.size, 1, none⟩)] 74))) := ((Kr.refl R w).alloc _).alloc _
  obtain ⟨q, hq⟩ : ∃ q, q = Im.rtwo l := ⟨_, rfl⟩
  have HQ := hide hq
  have HC : Hid (r = q.bind fun p => (Im.rcount p.2).bind fun n => (Im.rep Im.rn n.1.toNat n.2).bind fun ls => (Im.rtwo ls.2).bind fun q => (Im.rcount q.2).bind fun k => (Im.rep Im.rins k.1.toNat k.2).bind fun cs => some (⟨p.1.1, p.1.2, ls.1, q.1.1, q.1.2, cs.1⟩, cs.2)) := by unfold Hid; rw [hr.out, hq]; rfl
  clear hq hr
  go_enter Try.func31, Try.ntmps31
  go_wp2_with fail
  refine (ints_r R b w.heap.size (w.heap.size + 1) Zu 52 0 l _ HRD (alloc_at1 _ _ _) (by decide) hDR hDb (alloc_at2 _ _ _) (by omega) (by omega) q HQ).mono ?_
  rintro e w2 ⟨hk, hm⟩
  have HK : Hid (Kr R w w2) := hk.one HKR.out (Nat.le_refl _)
  clear hk HRD HKR
  cases q with
  | none =>
    have HR : Hid (r = none) := HC.out
    obtain rfl : e = .panicked [fltE 2 0] := hm
    go_wp2
    exact ⟨rfl, HK.out, by rw [HR.out]⟩
  | some p =>
  obtain ⟨⟨x1, x2⟩, l1⟩ := p
  obtain ⟨rfl, hD, hrd⟩ := hm
  have HD : Hid (w2.heap[w.heap.size]? = some (.cells [Value.int .i64 x1, .int .i64 x2, .slice none 0 0, .int .i64 0, .int .i64 0, .slice none 0 0].toArray 52 (0, 0))) := hD
  have HRD := hide hrd
  clear hD hrd HQ
  obtain ⟨q, hq⟩ : ∃ q, q = Im.rcount l1 := ⟨_, rfl⟩
  have HQ := hide hq
  have HC2 : Hid (r = q.bind fun n => (Im.rep Im.rn n.1.toNat n.2).bind fun ls => (Im.rtwo ls.2).bind fun q => (Im.rcount q.2).bind fun k => (Im.rep Im.rins k.1.toNat k.2).bind fun cs => some (⟨x1, x2, ls.1, q.1.1, q.1.2, cs.1⟩, cs.2)) := by unfold Hid; rw [HC.out, hq]; rfl
  clear hq HC
  go_wp2_with fail
  refine (count_r R b l1 _ HRD q HQ).mono ?_
  rintro e w3 ⟨hk, hm⟩
  have HKa : Hid (Kr R w w3) := HK.out.trans hk
  have HD3 : Hid (w3.heap[w.heap.size]? = some (.cells [Value.int .i64 x1, .int .i64 x2, .slice none 0 0, .int .i64 0, .int .i64 0, .slice none 0 0].toArray 52 (0, 0))) := (hk.blk _ (lt_of_block HD.out) hDR).trans HD.out
  clear hk HD HRD HK
  cases q with
  | none =>
    have HR : Hid (r = none) := HC2.out
    obtain rfl : e = .panicked [fltE 2 0] := hm
    go_wp2
    exact ⟨rfl, HKa.out, by rw [HR.out]⟩
  | some p =>
  obtain ⟨n, l2⟩ := p
  obtain ⟨rfl, hrd⟩ := hm
  have hn0 := Im.rcount_pos HQ.out.symm
  obtain ⟨nn, rfl⟩ : ∃ nn : Nat, n = nn := ⟨n.toNat, by omega⟩
  have hfew := hrd.few
  have HFS := hide (FAt.start (D := w.heap.size) (fo := 2) 3 1 hrd HD3.out rfl)
  have hs3 := HKa.out.size
  have hRa : R < w3.heap.size := by omega
  have hba : b < w3.heap.size := by omega
  obtain ⟨q2, hq2⟩ : ∃ q, q = Im.rep Im.rn nn l2 := ⟨_, rfl⟩
  have HC3 : Hid (r = q2.bind fun ls => (Im.rtwo ls.2).bind fun q => (Im.rcount q.2).bind fun k => (Im.rep Im.rins k.1.toNat k.2).bind fun cs => some (⟨x1, x2, ls.1, q.1.1, q.1.2, cs.1⟩, cs.2)) := by unfold Hid; rw [HC2.out, hq2]; rfl
  have HQ2 := hide hq2
  clear hq2 HC2 HQ hrd hn0
  go_wp2
  go_loopw [10] (fun i wr => ∃ (k : Nat) (xs : List Int) (lk : List Nat) (v : Value), i = .int .i64 k ∧ Im.RepAt Im.rn nn l2 k xs lk ∧ FAt R b w.heap.size [Value.int .i64 x1, .int .i64 x2, .slice none 0 0, .int .i64 0, .int .i64 0, .slice none 0 0] 52 2 3 1 w3 k (xs.flatMap intc) lk v wr) (fun i _ => nn - (intOf i).toNat)
  case atStart => exact ⟨0, [], l2, _, rfl, Im.RepAt.start _ _ _, HFS.out⟩
  case round =>
    obtain ⟨k, xs, lk, v, rfl, hA, hF⟩ := hrel
    have HA := hide hA
    have HF := hide hF
    have hk := hA.le
    have hused := hA.used
    have hsr := hF.kr.size
    clear hA hF HFS
    by_cases hlt : k < nn
    · obtain ⟨cD0, fD0⟩ := HF.out.cell (by simp) hDR (Kr.refl R wr)
      have n1 : (k : Int) < (nn : Int) := by omega
      cases hn : Im.rn lk with
      | none =>
        have HR : Hid (r = none) := by unfold Hid; rw [HC3.out, HQ2.out, HA.out.stop hlt hn]; rfl
        have HN : Hid (none = Im.rn lk) := hn.symm
        clear hn
        go_wp2
        refine wp_region_any (by kernel_rfl) ?_
        change wpAny _ _ _ _ _ _ _ (World.drew _)
        refine wpAny_take (i := 0) (v := .pointer (some ⟨w.heap.size, 2, none⟩)) rfl (by kernel_rfl) (by kernel_rfl) (by kernel_rfl) (fun _ _ _ h => h) (Or.inl ⟨by rfl, ?_⟩) ?_
        · intro w; go_simp
        simp only [Act.put]
        refine wpAny_take (i := 2) (v := .pointer (some ⟨R, 0, none⟩)) rfl (by kernel_rfl) (by kernel_rfl) (by kernel_rfl) (fun _ _ _ h => h) (Or.inl ⟨by rfl, ?_⟩) ?_
        · intro w; go_simp
        simp only [Act.put]
        refine wpAny_ready (rs := [1, 3]) (by kernel_rfl) (by simp) ?_
        refine AllReady.cons rfl (fun K hK => ?_) ?_
        · go_simp
          refine hK _ _ ?_
          clear hK K
          refine wpAny_ready (rs := [3]) (by kernel_rfl) (by simp) ?_
          refine AllReady.cons rfl (fun K hK => ?_) ?_
          · go_simp
            refine (number_r R b lk _ (hide HF.out.rd.drew) none HN).mono ?_
            rintro e w1 ⟨hk1, rfl⟩
            exact ⟨rfl, (HF.out.kr.trans hk1.undrew.two).one HKa.out (Nat.le_refl _), by rw [HR.out]⟩
          exact AllReady.nil
        refine AllReady.cons rfl (fun K hK => ?_) ?_
        · go_simp
          refine (number_r R b lk _ (hide HF.out.rd.drew) none HN).mono ?_
          rintro e w1 ⟨hk1, rfl⟩
          exact ⟨rfl, (HF.out.kr.trans hk1.undrew.two).one HKa.out (Nat.le_refl _), by rw [HR.out]⟩
        exact AllReady.nil
      | some p =>
        obtain ⟨x, l1⟩ := p
        have HN : Hid (some (x, l1) = Im.rn lk) := hn.symm
        have HNX := hide (HA.out.next hlt hn (Im.rn_lt hn))
        clear hn
        go_wp2
        refine wp_region_any (by kernel_rfl) ?_
        change wpAny _ _ _ _ _ _ _ (World.drew _)
        refine wpAny_take (i := 0) (v := .pointer (some ⟨w.heap.size, 2, none⟩)) rfl (by kernel_rfl) (by kernel_rfl) (by kernel_rfl) (fun _ _ _ h => h) (Or.inl ⟨by rfl, ?_⟩) ?_
        · intro w; go_simp
        simp only [Act.put]
        refine wpAny_take (i := 2) (v := .pointer (some ⟨R, 0, none⟩)) rfl (by kernel_rfl) (by kernel_rfl) (by kernel_rfl) (fun _ _ _ h => h) (Or.inl ⟨by rfl, ?_⟩) ?_
        · intro w; go_simp
        simp only [Act.put]
        refine wpAny_ready (rs := [1, 3]) (by kernel_rfl) (by simp) ?_
        refine AllReady.cons rfl (fun K hK => ?_) ?_
        · go_simp
          refine hK _ _ ?_
          clear hK K
          refine wpAny_ready (rs := [3]) (by kernel_rfl) (by simp) ?_
          refine AllReady.cons rfl (fun K hK => ?_) ?_
          · go_simp
            refine (number_r R b lk _ (hide HF.out.rd.drew) (some (x, l1)) HN).mono ?_
            rintro e w1 ⟨hk1, rfl, hrd1⟩
            have HK1 : Hid (Kr R wr w1) := hk1.undrew
            have HRD1 := hide hrd1
            obtain ⟨cD, fD⟩ := HF.out.cell (by simp) hDR HK1.out
            have hsw := HK1.out.size
            have hDl : w.heap.size < w1.heap.size := Nat.lt_of_lt_of_le (lt_of_block HF.out.blk) hsw
            clear hk1 hrd1
            refine hK _ _ ?_
            clear hK K
            refine wpAny_ready (rs := [4]) (by kernel_rfl) (by simp) ?_
            refine AllReady.cons rfl (fun K hK => ?_) ?_
            · go_simp
              refine hK _ _ ?_
              clear hK K
              refine wpAny_ready (rs := [5]) (by kernel_rfl) (by simp) ?_
              refine AllReady.cons rfl (fun K hK => ?_) ?_
              · skip
                refine step_append_own rfl (.tmp 13) (.tmp 16) 49 rfl w3.heap.size 3 i0 (.int .i64 0) 1 8 Try.underlying49 hi hz0 hz1 hz2 rfl (by decide) v k (xs.flatMap intc) rfl ((HF.out.row hRa HK1.out).alloc _) ⟨w1.heap.size, 0, none⟩ 1 1 (intc x) rfl rfl (news_at w1 (intc x) _) (all_one rfl) (by unfold maxLen; omega) (by omega) (by simp; omega) ?_
                intro v' w4 hown4 hg4
                obtain ⟨hf4, cD4, fD4⟩ := HF.out.step hDR hDb hRa hba (by decide) HK1.out HRD1.out hown4 hg4
                have cD5 := cD4.trans cD
                rw [← flat_snoc] at hf4
                obtain ⟨a', c', hv'⟩ := own_form hown4
                subst hv'
                have HF4 := hide hf4
                clear hown4 hg4 hf4 cD4
                refine hK _ _ ?_
                clear hK K
                simp only [Act.put]
                refine wpAny_take (i := 6) (v := .pointer (some ⟨w.heap.size, 2, none⟩)) rfl (by kernel_rfl) (by kernel_rfl) (by kernel_rfl) (fun _ _ _ h => h) (Or.inl ⟨by rfl, ?_⟩) ?_
                · intro w; go_simp
                simp only [Act.put]
                refine wpAny_ready (rs := [7]) (by kernel_rfl) (by simp) ?_
                refine AllReady.cons rfl (fun K hK => ?_) ?_
                · go_simp
                  refine hK _ _ ?_
                  clear hK K
                  refine wpAny_done (by kernel_rfl) ?_ _
                  go_wp2
                  go_roundw
                  case rel => exact ⟨k + 1, xs ++ [x], l1, _, by go_num, HNX.out, HF4.out⟩
                  case measure => simp [intOf]; omega
                exact AllReady.nil
              exact AllReady.nil
            exact AllReady.nil
          exact AllReady.nil
        refine AllReady.cons rfl (fun K hK => ?_) ?_
        · go_simp
          refine (number_r R b lk _ (hide HF.out.rd.drew) (some (x, l1)) HN).mono ?_
          rintro e w1 ⟨hk1, rfl, hrd1⟩
          have HK1 : Hid (Kr R wr w1) := hk1.undrew
          have HRD1 := hide hrd1
          obtain ⟨cD, fD⟩ := HF.out.cell (by simp) hDR HK1.out
          have hsw := HK1.out.size
          have hDl : w.heap.size < w1.heap.size := Nat.lt_of_lt_of_le (lt_of_block HF.out.blk) hsw
          clear hk1 hrd1
          refine hK _ _ ?_
          clear hK K
          refine wpAny_ready (rs := [1, 4]) (by kernel_rfl) (by simp) ?_
          refine AllReady.cons rfl (fun K hK => ?_) ?_
          · go_simp
            refine hK _ _ ?_
            clear hK K
            refine wpAny_ready (rs := [4]) (by kernel_rfl) (by simp) ?_
            refine AllReady.cons rfl (fun K hK => ?_) ?_
            · go_simp
              refine hK _ _ ?_
              clear hK K
              refine wpAny_ready (rs := [5]) (by kernel_rfl) (by simp) ?_
              refine AllReady.cons rfl (fun K hK => ?_) ?_
              · skip
                refine step_append_own rfl (.tmp 13) (.tmp 16) 49 rfl w3.heap.size 3 i0 (.int .i64 0) 1 8 Try.underlying49 hi hz0 hz1 hz2 rfl (by decide) v k (xs.flatMap intc) rfl ((HF.out.row hRa HK1.out).alloc _) ⟨w1.heap.size, 0, none⟩ 1 1 (intc x) rfl rfl (news_at w1 (intc x) _) (all_one rfl) (by unfold maxLen; omega) (by omega) (by simp; omega) ?_
                intro v' w4 hown4 hg4
                obtain ⟨hf4, cD4, fD4⟩ := HF.out.step hDR hDb hRa hba (by decide) HK1.out HRD1.out hown4 hg4
                have cD5 := cD4.trans cD
                rw [← flat_snoc] at hf4
                obtain ⟨a', c', hv'⟩ := own_form hown4
                subst hv'
                have HF4 := hide hf4
                clear hown4 hg4 hf4 cD4
                refine hK _ _ ?_
                clear hK K
                simp only [Act.put]
                refine wpAny_take (i := 6) (v := .pointer (some ⟨w.heap.size, 2, none⟩)) rfl (by kernel_rfl) (by kernel_rfl) (by kernel_rfl) (fun _ _ _ h => h) (Or.inl ⟨by rfl, ?_⟩) ?_
                · intro w; go_simp
                simp only [Act.put]
                refine wpAny_ready (rs := [7]) (by kernel_rfl) (by simp) ?_
                refine AllReady.cons rfl (fun K hK => ?_) ?_
                · go_simp
                  refine hK _ _ ?_
                  clear hK K
                  refine wpAny_done (by kernel_rfl) ?_ _
                  go_wp2
                  go_roundw
                  case rel => exact ⟨k + 1, xs ++ [x], l1, _, by go_num, HNX.out, HF4.out⟩
                  case measure => simp [intOf]; omega
                exact AllReady.nil
              exact AllReady.nil
            exact AllReady.nil
          refine AllReady.cons rfl (fun K hK => ?_) ?_
          · go_simp
            refine hK _ _ ?_
            clear hK K
            refine wpAny_ready (rs := [1]) (by kernel_rfl) (by simp) ?_
            refine AllReady.cons rfl (fun K hK => ?_) ?_
            · go_simp
              refine hK _ _ ?_
              clear hK K
              refine wpAny_ready (rs := [5]) (by kernel_rfl) (by simp) ?_
              refine AllReady.cons rfl (fun K hK => ?_) ?_
              · skip
                refine step_append_own rfl (.tmp 13) (.tmp 16) 49 rfl w3.heap.size 3 i0 (.int .i64 0) 1 8 Try.underlying49 hi hz0 hz1 hz2 rfl (by decide) v k (xs.flatMap intc) rfl ((HF.out.row hRa HK1.out).alloc _) ⟨w1.heap.size, 0, none⟩ 1 1 (intc x) rfl rfl (news_at w1 (intc x) _) (all_one rfl) (by unfold maxLen; omega) (by omega) (by simp; omega) ?_
                intro v' w4 hown4 hg4
                obtain ⟨hf4, cD4, fD4⟩ := HF.out.step hDR hDb hRa hba (by decide) HK1.out HRD1.out hown4 hg4
                have cD5 := cD4.trans cD
                rw [← flat_snoc] at hf4
                obtain ⟨a', c', hv'⟩ := own_form hown4
                subst hv'
                have HF4 := hide hf4
                clear hown4 hg4 hf4 cD4
                refine hK _ _ ?_
                clear hK K
                simp only [Act.put]
                refine wpAny_take (i := 6) (v := .pointer (some ⟨w.heap.size, 2, none⟩)) rfl (by kernel_rfl) (by kernel_rfl) (by kernel_rfl) (fun _ _ _ h => h) (Or.inl ⟨by rfl, ?_⟩) ?_
                · intro w; go_simp
                simp only [Act.put]
                refine wpAny_ready (rs := [7]) (by kernel_rfl) (by simp) ?_
                refine AllReady.cons rfl (fun K hK => ?_) ?_
                · go_simp
                  refine hK _ _ ?_
                  clear hK K
                  refine wpAny_done (by kernel_rfl) ?_ _
                  go_wp2
                  go_roundw
                  case rel => exact ⟨k + 1, xs ++ [x], l1, _, by go_num, HNX.out, HF4.out⟩
                  case measure => simp [intOf]; omega
                exact AllReady.nil
              exact AllReady.nil
            exact AllReady.nil
          exact AllReady.nil
        exact AllReady.nil
    · obtain rfl : k = nn := by omega
      have HLEN := hide HA.out.len
      obtain rfl : q2 = some (xs, lk) := by rw [HQ2.out, HA.out.done]
      have hown := own_base HF.out.own hs3
      obtain ⟨al, cl, hv⟩ := own_form hown
      subst hv
      have HOWL : Hid (wr.ownsRow w.heap.size 3 1 (.slice al k cl) k (xs.flatMap intc)) := hown
      have HK : Hid (Kr R w wr) := HF.out.kr.one HKa.out (Nat.le_refl _)
      have HDr : Hid (wr.heap[w.heap.size]? = some (.cells [Value.int .i64 x1, .int .i64 x2, .slice al k cl, .int .i64 0, .int .i64 0, .slice none 0 0].toArray 52 (0, 0))) := HF.out.blk
      have HRDr := hide HF.out.rd
      have hltD := lt_of_block HDr.out
      obtain ⟨q, hq⟩ : ∃ q, q = Im.rtwo lk := ⟨_, rfl⟩
      have HQ := hide hq
      have HC4 : Hid (r = q.bind fun q => (Im.rcount q.2).bind fun k => (Im.rep Im.rins k.1.toNat k.2).bind fun cs => some (⟨x1, x2, xs, q.1.1, q.1.2, cs.1⟩, cs.2)) := by unfold Hid; rw [HC3.out, hq]; rfl
      clear hq hown HC3 HQ2 HA HF HD3 HKa hsr hlt
      generalize hWr : wr = W at *
      have HDa : Hid ((W.alloc (.cells #[.pointer (some ⟨w.heap.size, 3, none⟩), .pointer (some ⟨w.heap.size, 4, none⟩)] 74)).heap[w.heap.size]? = some (.cells [Value.int .i64 x1, .int .i64 x2, .slice al k cl, .int .i64 0, .int .i64 0, .slice none 0 0].toArray 52 (0, 0))) := (Below.heap_alloc _ _ _ hltD).trans HDr.out
      have hszW := HK.out.size
      go_wp2_with fail
      refine (ints_r R b w.heap.size W.heap.size [Value.int .i64 x1, .int .i64 x2, .slice al k cl, .int .i64 0, .int .i64 0, .slice none 0 0] 52 3 lk _ (hide (HRDr.out.alloc _)) HDa (by simp) hDR hDb (alloc_at _ _) (by omega) (by omega) q HQ).mono ?_
      rintro e w5 ⟨hk5, hm⟩
      have HK5 : Hid (Kr R w w5) := hk5.one (HK.out.alloc _) (Nat.le_refl _)
      have HOWL5 : Hid (w5.ownsRow w.heap.size 3 1 (.slice al k cl) k (xs.flatMap intc)) := own_kr2 (HOWL.out.alloc _) hk5 hlR HDa.out (by decide)
      clear hk5 HOWL HK HDr HRDr HDa
      cases q with
      | none =>
        have HR : Hid (r = none) := HC4.out
        obtain rfl : e = .panicked [fltE 2 0] := hm
        go_wp2
        exact ⟨rfl, HK5.out, by rw [HR.out]⟩
      | some p =>
      obtain ⟨⟨x3, x4⟩, l3⟩ := p
      obtain ⟨rfl, hD, hrd⟩ := hm
      have HD : Hid (w5.heap[w.heap.size]? = some (.cells [Value.int .i64 x1, .int .i64 x2, .slice al k cl, .int .i64 x3, .int .i64 x4, .slice none 0 0].toArray 52 (0, 0))) := hD
      have HRD := hide hrd
      clear hD hrd HQ
      obtain ⟨q, hq⟩ : ∃ q, q = Im.rcount l3 := ⟨_, rfl⟩
      have HQ := hide hq
      have HC5 : Hid (r = q.bind fun k => (Im.rep Im.rins k.1.toNat k.2).bind fun cs => some (⟨x1, x2, xs, x3, x4, cs.1⟩, cs.2)) := by unfold Hid; rw [HC4.out, hq]; rfl
      clear hq HC4
      go_wp2_with fail
      refine (count_r R b l3 _ HRD q HQ).mono ?_
      rintro e w6 ⟨hk6, hm⟩
      have HKa : Hid (Kr R w w6) := HK5.out.trans hk6
      have HD6 : Hid (w6.heap[w.heap.size]? = some (.cells [Value.int .i64 x1, .int .i64 x2, .slice al k cl, .int .i64 x3, .int .i64 x4, .slice none 0 0].toArray 52 (0, 0))) := (hk6.blk _ (lt_of_block HD.out) hDR).trans HD.out
      have HOWL6 : Hid (w6.ownsRow w.heap.size 3 1 (.slice al k cl) k (xs.flatMap intc)) := own_kr2 HOWL5.out (hk6.two (D := w.heap.size)) hlR HD.out (by decide)
      clear hk6 HD HRD HK5 HOWL5
      cases q with
      | none =>
        have HR : Hid (r = none) := HC5.out
        obtain rfl : e = .panicked [fltE 2 0] := hm
        go_wp2
        exact ⟨rfl, HKa.out, by rw [HR.out]⟩
      | some p =>
      obtain ⟨n, l4⟩ := p
      obtain ⟨rfl, hrd⟩ := hm
      have hn0 := Im.rcount_pos HQ.out.symm
      obtain ⟨nk, rfl⟩ : ∃ nk : Nat, n = nk := ⟨n.toNat, by omega⟩
      have hfew4 := hrd.few
      have HFS := hide (FAt.start (D := w.heap.size) (fo := 5) 54 3 hrd HD6.out rfl)
      have hs6 := HKa.out.size
      clear hRa hba
      have hRa : R < w6.heap.size := by omega
      have hba : b < w6.heap.size := by omega
      obtain ⟨q2, hq2⟩ : ∃ q, q = Im.rep Im.rins nk l4 := ⟨_, rfl⟩
      have HC6 : Hid (r = q2.bind fun cs => some (⟨x1, x2, xs, x3, x4, cs.1⟩, cs.2)) := by unfold Hid; rw [HC5.out, hq2]; rfl
      have HQ2 := hide hq2
      obtain ⟨ys, hys⟩ : ∃ ys, ys = xs := ⟨_, rfl⟩
      rw [← hys] at HLEN HC6 HOWL6
      obtain ⟨kk, hkk⟩ : ∃ kk, kk = k := ⟨_, rfl⟩
      rw [← hkk]
      rw [← hkk] at HLEN HFS HOWL6 HD6
      clear hq2 HC5 HQ hrd hn0 hys hkk hWr
      go_wp2
      go_loopw [27] (fun i wr => ∃ (k : Nat) (xs : List Im.Ins) (lk : List Nat) (v : Value), i = .int .i64 k ∧ Im.RepAt Im.rins nk l4 k xs lk ∧ FAt R b w.heap.size [Value.int .i64 x1, .int .i64 x2, .slice al kk cl, .int .i64 x3, .int .i64 x4, .slice none 0 0] 52 5 54 3 w6 k (xs.flatMap insc) lk v wr) (fun i _ => nk - (intOf i).toNat)
      case atStart => exact ⟨0, [], l4, _, rfl, Im.RepAt.start _ _ _, HFS.out⟩
      case round =>
        obtain ⟨k, xs, lk, v, rfl, hA, hF⟩ := hrel
        have HA := hide hA
        have HF := hide hF
        have hk := hA.le
        have hused := hA.used
        have hsr := hF.kr.size
        clear hA hF HFS
        by_cases hlt : k < nk
        · obtain ⟨cD0, fD0⟩ := HF.out.cell (by simp) hDR (Kr.refl R wr)
          have n1 : (k : Int) < (nk : Int) := by omega
          cases hn : Im.rins lk with
          | none =>
            have HR : Hid (r = none) := by unfold Hid; rw [HC6.out, HQ2.out, HA.out.stop hlt hn]; rfl
            have HN : Hid (none = Im.rins lk) := hn.symm
            clear hn
            go_wp2
            refine wp_region_any (by kernel_rfl) ?_
            change wpAny _ _ _ _ _ _ _ (World.drew _)
            refine wpAny_take (i := 0) (v := .pointer (some ⟨w.heap.size, 5, none⟩)) rfl (by kernel_rfl) (by kernel_rfl) (by kernel_rfl) (fun _ _ _ h => h) (Or.inl ⟨by rfl, ?_⟩) ?_
            · intro w; go_simp
            simp only [Act.put]
            refine wpAny_take (i := 2) (v := .pointer (some ⟨R, 0, none⟩)) rfl (by kernel_rfl) (by kernel_rfl) (by kernel_rfl) (fun _ _ _ h => h) (Or.inl ⟨by rfl, ?_⟩) ?_
            · intro w; go_simp
            simp only [Act.put]
            refine wpAny_ready (rs := [1, 3]) (by kernel_rfl) (by simp) ?_
            refine AllReady.cons rfl (fun K hK => ?_) ?_
            · go_simp
              refine hK _ _ ?_
              clear hK K
              refine wpAny_ready (rs := [3]) (by kernel_rfl) (by simp) ?_
              refine AllReady.cons rfl (fun K hK => ?_) ?_
              · go_simp
                refine (instr_r R b lk _ (hide HF.out.rd.drew) none HN).mono ?_
                rintro e w1 ⟨hk1, rfl⟩
                exact ⟨rfl, (HF.out.kr.trans hk1.undrew.two).one HKa.out (Nat.le_refl _), by rw [HR.out]⟩
              exact AllReady.nil
            refine AllReady.cons rfl (fun K hK => ?_) ?_
            · go_simp
              refine (instr_r R b lk _ (hide HF.out.rd.drew) none HN).mono ?_
              rintro e w1 ⟨hk1, rfl⟩
              exact ⟨rfl, (HF.out.kr.trans hk1.undrew.two).one HKa.out (Nat.le_refl _), by rw [HR.out]⟩
            exact AllReady.nil
          | some p =>
            obtain ⟨x, l1⟩ := p
            have HN : Hid (some (x, l1) = Im.rins lk) := hn.symm
            have HNX := hide (HA.out.next hlt hn (Im.rins_lt hn))
            clear hn
            go_wp2
            refine wp_region_any (by kernel_rfl) ?_
            change wpAny _ _ _ _ _ _ _ (World.drew _)
            refine wpAny_take (i := 0) (v := .pointer (some ⟨w.heap.size, 5, none⟩)) rfl (by kernel_rfl) (by kernel_rfl) (by kernel_rfl) (fun _ _ _ h => h) (Or.inl ⟨by rfl, ?_⟩) ?_
            · intro w; go_simp
            simp only [Act.put]
            refine wpAny_take (i := 2) (v := .pointer (some ⟨R, 0, none⟩)) rfl (by kernel_rfl) (by kernel_rfl) (by kernel_rfl) (fun _ _ _ h => h) (Or.inl ⟨by rfl, ?_⟩) ?_
            · intro w; go_simp
            simp only [Act.put]
            refine wpAny_ready (rs := [1, 3]) (by kernel_rfl) (by simp) ?_
            refine AllReady.cons rfl (fun K hK => ?_) ?_
            · go_simp
              refine hK _ _ ?_
              clear hK K
              refine wpAny_ready (rs := [3]) (by kernel_rfl) (by simp) ?_
              refine AllReady.cons rfl (fun K hK => ?_) ?_
              · go_simp
                refine (instr_r R b lk _ (hide HF.out.rd.drew) (some (x, l1)) HN).mono ?_
                rintro e w1 ⟨hk1, rfl, hrd1⟩
                have HK1 : Hid (Kr R wr w1) := hk1.undrew
                have HRD1 := hide hrd1
                obtain ⟨cD, fD⟩ := HF.out.cell (by simp) hDR HK1.out
                have hsw := HK1.out.size
                have hDl : w.heap.size < w1.heap.size := Nat.lt_of_lt_of_le (lt_of_block HF.out.blk) hsw
                clear hk1 hrd1
                refine hK _ _ ?_
                clear hK K
                refine wpAny_ready (rs := [4]) (by kernel_rfl) (by simp) ?_
                refine AllReady.cons rfl (fun K hK => ?_) ?_
                · go_simp
                  refine hK _ _ ?_
                  clear hK K
                  refine wpAny_ready (rs := [5]) (by kernel_rfl) (by simp) ?_
                  refine AllReady.cons rfl (fun K hK => ?_) ?_
                  · skip
                    refine step_append_own rfl (.tmp 30) (.tmp 33) 50 rfl w6.heap.size 54 i1 (.agg #[.int .i64 0, .int .i64 0, .int .i64 0]) 3 24 Try.underlying50 hj hy0 hy1 hy2 rfl (by decide) v k (xs.flatMap insc) rfl ((HF.out.row hRa HK1.out).alloc _) ⟨w1.heap.size, 0, none⟩ 1 1 (insc x) rfl rfl (news_at w1 (insc x) _) (all_one rfl) (by unfold maxLen; omega) (by omega) (by simp; omega) ?_
                    intro v' w4 hown4 hg4
                    obtain ⟨hf4, cD4, fD4⟩ := HF.out.step hDR hDb hRa hba (by decide) HK1.out HRD1.out hown4 hg4
                    have cD5 := cD4.trans cD
                    rw [← flat_snoc] at hf4
                    obtain ⟨a', c', hv'⟩ := own_form hown4
                    subst hv'
                    have HF4 := hide hf4
                    clear hown4 hg4 hf4 cD4
                    refine hK _ _ ?_
                    clear hK K
                    simp only [Act.put]
                    refine wpAny_take (i := 6) (v := .pointer (some ⟨w.heap.size, 5, none⟩)) rfl (by kernel_rfl) (by kernel_rfl) (by kernel_rfl) (fun _ _ _ h => h) (Or.inl ⟨by rfl, ?_⟩) ?_
                    · intro w; go_simp
                    simp only [Act.put]
                    refine wpAny_ready (rs := [7]) (by kernel_rfl) (by simp) ?_
                    refine AllReady.cons rfl (fun K hK => ?_) ?_
                    · go_simp
                      refine hK _ _ ?_
                      clear hK K
                      refine wpAny_done (by kernel_rfl) ?_ _
                      go_wp2
                      go_roundw
                      case rel => exact ⟨k + 1, xs ++ [x], l1, _, by go_num, HNX.out, HF4.out⟩
                      case measure => simp [intOf]; omega
                    exact AllReady.nil
                  exact AllReady.nil
                exact AllReady.nil
              exact AllReady.nil
            refine AllReady.cons rfl (fun K hK => ?_) ?_
            · go_simp
              refine (instr_r R b lk _ (hide HF.out.rd.drew) (some (x, l1)) HN).mono ?_
              rintro e w1 ⟨hk1, rfl, hrd1⟩
              have HK1 : Hid (Kr R wr w1) := hk1.undrew
              have HRD1 := hide hrd1
              obtain ⟨cD, fD⟩ := HF.out.cell (by simp) hDR HK1.out
              have hsw := HK1.out.size
              have hDl : w.heap.size < w1.heap.size := Nat.lt_of_lt_of_le (lt_of_block HF.out.blk) hsw
              clear hk1 hrd1
              refine hK _ _ ?_
              clear hK K
              refine wpAny_ready (rs := [1, 4]) (by kernel_rfl) (by simp) ?_
              refine AllReady.cons rfl (fun K hK => ?_) ?_
              · go_simp
                refine hK _ _ ?_
                clear hK K
                refine wpAny_ready (rs := [4]) (by kernel_rfl) (by simp) ?_
                refine AllReady.cons rfl (fun K hK => ?_) ?_
                · go_simp
                  refine hK _ _ ?_
                  clear hK K
                  refine wpAny_ready (rs := [5]) (by kernel_rfl) (by simp) ?_
                  refine AllReady.cons rfl (fun K hK => ?_) ?_
                  · skip
                    refine step_append_own rfl (.tmp 30) (.tmp 33) 50 rfl w6.heap.size 54 i1 (.agg #[.int .i64 0, .int .i64 0, .int .i64 0]) 3 24 Try.underlying50 hj hy0 hy1 hy2 rfl (by decide) v k (xs.flatMap insc) rfl ((HF.out.row hRa HK1.out).alloc _) ⟨w1.heap.size, 0, none⟩ 1 1 (insc x) rfl rfl (news_at w1 (insc x) _) (all_one rfl) (by unfold maxLen; omega) (by omega) (by simp; omega) ?_
                    intro v' w4 hown4 hg4
                    obtain ⟨hf4, cD4, fD4⟩ := HF.out.step hDR hDb hRa hba (by decide) HK1.out HRD1.out hown4 hg4
                    have cD5 := cD4.trans cD
                    rw [← flat_snoc] at hf4
                    obtain ⟨a', c', hv'⟩ := own_form hown4
                    subst hv'
                    have HF4 := hide hf4
                    clear hown4 hg4 hf4 cD4
                    refine hK _ _ ?_
                    clear hK K
                    simp only [Act.put]
                    refine wpAny_take (i := 6) (v := .pointer (some ⟨w.heap.size, 5, none⟩)) rfl (by kernel_rfl) (by kernel_rfl) (by kernel_rfl) (fun _ _ _ h => h) (Or.inl ⟨by rfl, ?_⟩) ?_
                    · intro w; go_simp
                    simp only [Act.put]
                    refine wpAny_ready (rs := [7]) (by kernel_rfl) (by simp) ?_
                    refine AllReady.cons rfl (fun K hK => ?_) ?_
                    · go_simp
                      refine hK _ _ ?_
                      clear hK K
                      refine wpAny_done (by kernel_rfl) ?_ _
                      go_wp2
                      go_roundw
                      case rel => exact ⟨k + 1, xs ++ [x], l1, _, by go_num, HNX.out, HF4.out⟩
                      case measure => simp [intOf]; omega
                    exact AllReady.nil
                  exact AllReady.nil
                exact AllReady.nil
              refine AllReady.cons rfl (fun K hK => ?_) ?_
              · go_simp
                refine hK _ _ ?_
                clear hK K
                refine wpAny_ready (rs := [1]) (by kernel_rfl) (by simp) ?_
                refine AllReady.cons rfl (fun K hK => ?_) ?_
                · go_simp
                  refine hK _ _ ?_
                  clear hK K
                  refine wpAny_ready (rs := [5]) (by kernel_rfl) (by simp) ?_
                  refine AllReady.cons rfl (fun K hK => ?_) ?_
                  · skip
                    refine step_append_own rfl (.tmp 30) (.tmp 33) 50 rfl w6.heap.size 54 i1 (.agg #[.int .i64 0, .int .i64 0, .int .i64 0]) 3 24 Try.underlying50 hj hy0 hy1 hy2 rfl (by decide) v k (xs.flatMap insc) rfl ((HF.out.row hRa HK1.out).alloc _) ⟨w1.heap.size, 0, none⟩ 1 1 (insc x) rfl rfl (news_at w1 (insc x) _) (all_one rfl) (by unfold maxLen; omega) (by omega) (by simp; omega) ?_
                    intro v' w4 hown4 hg4
                    obtain ⟨hf4, cD4, fD4⟩ := HF.out.step hDR hDb hRa hba (by decide) HK1.out HRD1.out hown4 hg4
                    have cD5 := cD4.trans cD
                    rw [← flat_snoc] at hf4
                    obtain ⟨a', c', hv'⟩ := own_form hown4
                    subst hv'
                    have HF4 := hide hf4
                    clear hown4 hg4 hf4 cD4
                    refine hK _ _ ?_
                    clear hK K
                    simp only [Act.put]
                    refine wpAny_take (i := 6) (v := .pointer (some ⟨w.heap.size, 5, none⟩)) rfl (by kernel_rfl) (by kernel_rfl) (by kernel_rfl) (fun _ _ _ h => h) (Or.inl ⟨by rfl, ?_⟩) ?_
                    · intro w; go_simp
                    simp only [Act.put]
                    refine wpAny_ready (rs := [7]) (by kernel_rfl) (by simp) ?_
                    refine AllReady.cons rfl (fun K hK => ?_) ?_
                    · go_simp
                      refine hK _ _ ?_
                      clear hK K
                      refine wpAny_done (by kernel_rfl) ?_ _
                      go_wp2
                      go_roundw
                      case rel => exact ⟨k + 1, xs ++ [x], l1, _, by go_num, HNX.out, HF4.out⟩
                      case measure => simp [intOf]; omega
                    exact AllReady.nil
                  exact AllReady.nil
                exact AllReady.nil
              exact AllReady.nil
            exact AllReady.nil
        · obtain rfl : k = nk := by omega
          have HLEN2 := hide HA.out.len
          obtain rfl : q2 = some (xs, lk) := by rw [HQ2.out, HA.out.done]
          have hown := own_base HF.out.own hs6
          obtain ⟨ac, cc, hv⟩ := own_form hown
          subst hv
          have HOWC : Hid (wr.ownsRow w.heap.size 54 3 (.slice ac k cc) k (xs.flatMap insc)) := hown
          have HOWL : Hid (wr.ownsRow w.heap.size 3 1 (.slice al kk cl) kk (ys.flatMap intc)) := own_kr2 HOWL6.out HF.out.kr hlR HD6.out (by decide)
          have HK : Hid (Kr R w wr) := HF.out.kr.one HKa.out (Nat.le_refl _)
          have hDr : wr.heap[w.heap.size]? = some (.cells [Value.int .i64 x1, .int .i64 x2, .slice al kk cl, .int .i64 x3, .int .i64 x4, .slice ac k cc].toArray 52 (0, 0)) := HF.out.blk
          have HRDr := hide HF.out.rd
          have HR : Hid (r = some (⟨x1, x2, ys, x3, x4, xs⟩, lk)) := by unfold Hid; rw [HC6.out]; rfl
          have HDr := hide hDr
          obtain ⟨c0, c1, c2, c3, c4, c5, f0, f1, f2, f3, f4, f5⟩ := cells6_at hDr
          clear hown HC6 HQ2 HA HF HKa hsr hlt hDr HD6 HOWL6
          go_wp2
          refine bodyPost_ret (v := .agg #[.int .i64 x1, .int .i64 x2, .slice al kk cl, .int .i64 x3, .int .i64 x4, .slice ac k cc]) (by simp [results, Try.results31, go_sem, c0, c1, c2, c3, c4, c5]) rfl ?_
          refine ⟨six_kr HK.out _ _ _ _ _ _, ?_⟩
          rw [HR.out]
          refine ⟨⟨al, cl, ac, cc, ?_, ?_, ?_⟩, six_rd HRDr.out (by omega) (by omega) _ _ _ _ _ _⟩
          · show _ = Ending.returned (.agg #[.int .i64 x1, .int .i64 x2, .slice al ys.length cl, .int .i64 x3, .int .i64 x4, .slice ac xs.length cc])
            rw [HLEN.out, HLEN2.out]
          · show World.ownsRow _ _ _ _ (.slice al ys.length cl) ys.length (ys.flatMap intc)
            rw [HLEN.out]
            exact six_own HOWL.out HDr.out (by decide) _ _ _ _ _ _
          · show World.ownsRow _ _ _ _ (.slice ac xs.length cc) xs.length (xs.flatMap insc)
            rw [HLEN2.out]
            exact six_own HOWC.out HDr.out (by decide) _ _ _ _ _ _

end Go.Proofs.Ytnfkfgpnojdfoaa
