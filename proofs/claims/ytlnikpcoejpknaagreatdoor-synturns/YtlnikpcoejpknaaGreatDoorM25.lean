/- The walk of kids' own closure. -/
import Derived.Test.YtlnikpcoejpknaaGreatDoorM24
namespace Go.Proofs.YtlnikpcoejpknaaGreatDoor
open Go.RowKit

theorem cell_alloc {w : World} {K o : Nat} {u : Value} {ob : Obj} (h : w.cell? ⟨K, o, none⟩ = some u) (hK : K < w.heap.size) : (w.alloc ob).cell? ⟨K, o, none⟩ = some u := (World.cell?_of_block (w := w) (Below.heap_alloc _ _ _ hK)).trans h





set_option maxRecDepth 100000 in
set_option maxHeartbeats 4000000 in
theorem kid_f (E : Env) (G : Good E) (d : Nat) (hX : Hid (CExpr E d)) : CKid E d := by
  intro p N r out w0 w h hp ho hN hR hg0 hk hr
  obtain ⟨its, v, n, hout, k⟩ := hk.out
  obtain ⟨av, cv, rfl⟩ : ∃ av cv, v = .slice av its.length cv := by
    rcases k.row.2 with ⟨h1, h2⟩ | ⟨g, cap, cur, h1, _⟩
    · exact ⟨none, 0, by rw [h1, h2]⟩
    · exact ⟨_, _, h1⟩
  have HK := hide2 k
  have HOUT := hide2 hout
  have hlen : its.length ≤ 6 := by have := congrArg List.length hout; simp at this; omega
  have c0 : w.cell? ⟨N + 1, 0, none⟩ = some (.slice av its.length cv) := kat_ob k
  have c1 : w.cell? ⟨N, 0, none⟩ = some (.pointer (some ⟨E.R, 0, none⟩)) := kat_rb k
  have hNw : N + 1 < w.heap.size := lt_of_block k.ob
  have c0a : (w.alloc ZE).cell? ⟨N + 1, 0, none⟩ = some (.slice av its.length cv) := cell_alloc c0 hNw
  have c1a : (w.alloc ZE).cell? ⟨N, 0, none⟩ = some (.pointer (some ⟨E.R, 0, none⟩)) := cell_alloc c1 (by omega)
  clear k hout hk
  cases r with
  | error er =>
    obtain ⟨er1, er2⟩ := er
    go_enter Tryz.func169, Tryz.ntmps169
    refine wp_region_any (by kernel_rfl) ?_
    change wpAny _ _ _ _ _ _ _ (World.drew _)
    refine wpAny_ready (rs := [0, 1, 4]) (by kernel_rfl) (by simp) ?_
    refine AllReady.cons rfl (fun K hK => ?_) ?_
    · go_simp
      refine hK _ _ ?_
      clear hK K
      refine wpAny_take (i := 3) (v := .int .i64 its.length) rfl (by kernel_rfl) (by kernel_rfl) (by kernel_rfl) (fun _ _ _ h => h) (Or.inl ⟨by rfl, ?_⟩) ?_
      · intro w; go_simp
      simp only [Act.put]
      refine wpAny_ready (rs := [1, 4]) (by kernel_rfl) (by simp) ?_
      refine AllReady.cons rfl (fun K hK => ?_) ?_
      · go_simp
        refine hK _ _ ?_
        clear hK K
        refine wpAny_ready (rs := [2, 4]) (by kernel_rfl) (by simp) ?_
        refine AllReady.cons rfl (fun K hK => ?_) ?_
        · go_simp
          refine (hX.out p (.error (er1, er2)) _ (by first | exact h.out.drew | exact (h.out.alloc G _).drew) hp hr).mono ?_
          rintro e w1 ⟨hg1, rfl, hd1⟩
          have HG1 : Hid (w0.grownBy w1 (some E.R)) := grown_tr hg0.out (by first | exact grown_undrew hg1 | exact grown_tr (grown_alloc (grown_bel (Below.refl _ w)) _) (grown_undrew hg1))
          exact ⟨rfl, HG1.out, rfl, hd1⟩
        refine AllReady.cons rfl (fun K hK => ?_) ?_
        · go_simp
          refine hK _ _ ?_
          clear hK K
          refine wpAny_ready (rs := [2]) (by kernel_rfl) (by simp) ?_
          refine AllReady.cons rfl (fun K hK => ?_) ?_
          · go_simp
            refine (hX.out p (.error (er1, er2)) _ (by first | exact h.out.drew | exact (h.out.alloc G _).drew) hp hr).mono ?_
            rintro e w1 ⟨hg1, rfl, hd1⟩
            have HG1 : Hid (w0.grownBy w1 (some E.R)) := grown_tr hg0.out (by first | exact grown_undrew hg1 | exact grown_tr (grown_alloc (grown_bel (Below.refl _ w)) _) (grown_undrew hg1))
            exact ⟨rfl, HG1.out, rfl, hd1⟩
          exact AllReady.nil
        exact AllReady.nil
      refine AllReady.cons rfl (fun K hK => ?_) ?_
      · go_simp
        refine hK _ _ ?_
        clear hK K
        refine wpAny_ready (rs := [1]) (by kernel_rfl) (by simp) ?_
        refine AllReady.cons rfl (fun K hK => ?_) ?_
        · go_simp
          refine hK _ _ ?_
          clear hK K
          refine wpAny_ready (rs := [2]) (by kernel_rfl) (by simp) ?_
          refine AllReady.cons rfl (fun K hK => ?_) ?_
          · go_simp
            refine (hX.out p (.error (er1, er2)) _ (by first | exact h.out.drew | exact (h.out.alloc G _).drew) hp hr).mono ?_
            rintro e w1 ⟨hg1, rfl, hd1⟩
            have HG1 : Hid (w0.grownBy w1 (some E.R)) := grown_tr hg0.out (by first | exact grown_undrew hg1 | exact grown_tr (grown_alloc (grown_bel (Below.refl _ w)) _) (grown_undrew hg1))
            exact ⟨rfl, HG1.out, rfl, hd1⟩
          exact AllReady.nil
        exact AllReady.nil
      exact AllReady.nil
    refine AllReady.cons rfl (fun K hK => ?_) ?_
    · go_simp
      refine hK _ _ ?_
      clear hK K
      refine wpAny_ready (rs := [0, 2, 4]) (by kernel_rfl) (by simp) ?_
      refine AllReady.cons rfl (fun K hK => ?_) ?_
      · go_simp
        refine hK _ _ ?_
        clear hK K
        refine wpAny_take (i := 3) (v := .int .i64 its.length) rfl (by kernel_rfl) (by kernel_rfl) (by kernel_rfl) (fun _ _ _ h => h) (Or.inl ⟨by rfl, ?_⟩) ?_
        · intro w; go_simp
        simp only [Act.put]
        refine wpAny_ready (rs := [2, 4]) (by kernel_rfl) (by simp) ?_
        refine AllReady.cons rfl (fun K hK => ?_) ?_
        · go_simp
          refine (hX.out p (.error (er1, er2)) _ (by first | exact h.out.drew | exact (h.out.alloc G _).drew) hp hr).mono ?_
          rintro e w1 ⟨hg1, rfl, hd1⟩
          have HG1 : Hid (w0.grownBy w1 (some E.R)) := grown_tr hg0.out (by first | exact grown_undrew hg1 | exact grown_tr (grown_alloc (grown_bel (Below.refl _ w)) _) (grown_undrew hg1))
          exact ⟨rfl, HG1.out, rfl, hd1⟩
        refine AllReady.cons rfl (fun K hK => ?_) ?_
        · go_simp
          refine hK _ _ ?_
          clear hK K
          refine wpAny_ready (rs := [2]) (by kernel_rfl) (by simp) ?_
          refine AllReady.cons rfl (fun K hK => ?_) ?_
          · go_simp
            refine (hX.out p (.error (er1, er2)) _ (by first | exact h.out.drew | exact (h.out.alloc G _).drew) hp hr).mono ?_
            rintro e w1 ⟨hg1, rfl, hd1⟩
            have HG1 : Hid (w0.grownBy w1 (some E.R)) := grown_tr hg0.out (by first | exact grown_undrew hg1 | exact grown_tr (grown_alloc (grown_bel (Below.refl _ w)) _) (grown_undrew hg1))
            exact ⟨rfl, HG1.out, rfl, hd1⟩
          exact AllReady.nil
        exact AllReady.nil
      refine AllReady.cons rfl (fun K hK => ?_) ?_
      · go_simp
        refine (hX.out p (.error (er1, er2)) _ (by first | exact h.out.drew | exact (h.out.alloc G _).drew) hp hr).mono ?_
        rintro e w1 ⟨hg1, rfl, hd1⟩
        have HG1 : Hid (w0.grownBy w1 (some E.R)) := grown_tr hg0.out (by first | exact grown_undrew hg1 | exact grown_tr (grown_alloc (grown_bel (Below.refl _ w)) _) (grown_undrew hg1))
        exact ⟨rfl, HG1.out, rfl, hd1⟩
      refine AllReady.cons rfl (fun K hK => ?_) ?_
      · go_simp
        refine hK _ _ ?_
        clear hK K
        refine wpAny_ready (rs := [0, 2]) (by kernel_rfl) (by simp) ?_
        refine AllReady.cons rfl (fun K hK => ?_) ?_
        · go_simp
          refine hK _ _ ?_
          clear hK K
          refine wpAny_take (i := 3) (v := .int .i64 its.length) rfl (by kernel_rfl) (by kernel_rfl) (by kernel_rfl) (fun _ _ _ h => h) (Or.inl ⟨by rfl, ?_⟩) ?_
          · intro w; go_simp
          simp only [Act.put]
          refine wpAny_ready (rs := [2]) (by kernel_rfl) (by simp) ?_
          refine AllReady.cons rfl (fun K hK => ?_) ?_
          · go_simp
            refine (hX.out p (.error (er1, er2)) _ (by first | exact h.out.drew | exact (h.out.alloc G _).drew) hp hr).mono ?_
            rintro e w1 ⟨hg1, rfl, hd1⟩
            have HG1 : Hid (w0.grownBy w1 (some E.R)) := grown_tr hg0.out (by first | exact grown_undrew hg1 | exact grown_tr (grown_alloc (grown_bel (Below.refl _ w)) _) (grown_undrew hg1))
            exact ⟨rfl, HG1.out, rfl, hd1⟩
          exact AllReady.nil
        refine AllReady.cons rfl (fun K hK => ?_) ?_
        · go_simp
          refine (hX.out p (.error (er1, er2)) _ (by first | exact h.out.drew | exact (h.out.alloc G _).drew) hp hr).mono ?_
          rintro e w1 ⟨hg1, rfl, hd1⟩
          have HG1 : Hid (w0.grownBy w1 (some E.R)) := grown_tr hg0.out (by first | exact grown_undrew hg1 | exact grown_tr (grown_alloc (grown_bel (Below.refl _ w)) _) (grown_undrew hg1))
          exact ⟨rfl, HG1.out, rfl, hd1⟩
        exact AllReady.nil
      exact AllReady.nil
    refine AllReady.cons rfl (fun K hK => ?_) ?_
    · go_simp
      refine hK _ _ ?_
      clear hK K
      refine wpAny_ready (rs := [0, 1]) (by kernel_rfl) (by simp) ?_
      refine AllReady.cons rfl (fun K hK => ?_) ?_
      · go_simp
        refine hK _ _ ?_
        clear hK K
        refine wpAny_take (i := 3) (v := .int .i64 its.length) rfl (by kernel_rfl) (by kernel_rfl) (by kernel_rfl) (fun _ _ _ h => h) (Or.inl ⟨by rfl, ?_⟩) ?_
        · intro w; go_simp
        simp only [Act.put]
        refine wpAny_ready (rs := [1]) (by kernel_rfl) (by simp) ?_
        refine AllReady.cons rfl (fun K hK => ?_) ?_
        · go_simp
          refine hK _ _ ?_
          clear hK K
          refine wpAny_ready (rs := [2]) (by kernel_rfl) (by simp) ?_
          refine AllReady.cons rfl (fun K hK => ?_) ?_
          · go_simp
            refine (hX.out p (.error (er1, er2)) _ (by first | exact h.out.drew | exact (h.out.alloc G _).drew) hp hr).mono ?_
            rintro e w1 ⟨hg1, rfl, hd1⟩
            have HG1 : Hid (w0.grownBy w1 (some E.R)) := grown_tr hg0.out (by first | exact grown_undrew hg1 | exact grown_tr (grown_alloc (grown_bel (Below.refl _ w)) _) (grown_undrew hg1))
            exact ⟨rfl, HG1.out, rfl, hd1⟩
          exact AllReady.nil
        exact AllReady.nil
      refine AllReady.cons rfl (fun K hK => ?_) ?_
      · go_simp
        refine hK _ _ ?_
        clear hK K
        refine wpAny_ready (rs := [0, 2]) (by kernel_rfl) (by simp) ?_
        refine AllReady.cons rfl (fun K hK => ?_) ?_
        · go_simp
          refine hK _ _ ?_
          clear hK K
          refine wpAny_take (i := 3) (v := .int .i64 its.length) rfl (by kernel_rfl) (by kernel_rfl) (by kernel_rfl) (fun _ _ _ h => h) (Or.inl ⟨by rfl, ?_⟩) ?_
          · intro w; go_simp
          simp only [Act.put]
          refine wpAny_ready (rs := [2]) (by kernel_rfl) (by simp) ?_
          refine AllReady.cons rfl (fun K hK => ?_) ?_
          · go_simp
            refine (hX.out p (.error (er1, er2)) _ (by first | exact h.out.drew | exact (h.out.alloc G _).drew) hp hr).mono ?_
            rintro e w1 ⟨hg1, rfl, hd1⟩
            have HG1 : Hid (w0.grownBy w1 (some E.R)) := grown_tr hg0.out (by first | exact grown_undrew hg1 | exact grown_tr (grown_alloc (grown_bel (Below.refl _ w)) _) (grown_undrew hg1))
            exact ⟨rfl, HG1.out, rfl, hd1⟩
          exact AllReady.nil
        refine AllReady.cons rfl (fun K hK => ?_) ?_
        · go_simp
          refine (hX.out p (.error (er1, er2)) _ (by first | exact h.out.drew | exact (h.out.alloc G _).drew) hp hr).mono ?_
          rintro e w1 ⟨hg1, rfl, hd1⟩
          have HG1 : Hid (w0.grownBy w1 (some E.R)) := grown_tr hg0.out (by first | exact grown_undrew hg1 | exact grown_tr (grown_alloc (grown_bel (Below.refl _ w)) _) (grown_undrew hg1))
          exact ⟨rfl, HG1.out, rfl, hd1⟩
        exact AllReady.nil
      exact AllReady.nil
    exact AllReady.nil
  | ok qx =>
    obtain ⟨q, x⟩ := qx
    have hix : (its.length : Int) < (its.length : Int) + 1 := by omega
    obtain ⟨i0, hi, hz0, hz1, hz2⟩ := info_parts Tryz.info64
    go_enter Tryz.func169, Tryz.ntmps169
    refine wp_region_any (by kernel_rfl) ?_
    change wpAny _ _ _ _ _ _ _ (World.drew _)
    refine wpAny_ready (rs := [0, 1, 4]) (by kernel_rfl) (by simp) ?_
    refine AllReady.cons rfl (fun K hK => ?_) ?_
    · go_simp
      refine hK _ _ ?_
      clear hK K
      refine wpAny_take (i := 3) (v := .int .i64 its.length) rfl (by kernel_rfl) (by kernel_rfl) (by kernel_rfl) (fun _ _ _ h => h) (Or.inl ⟨by rfl, ?_⟩) ?_
      · intro w; go_simp
      simp only [Act.put]
      refine wpAny_ready (rs := [1, 4]) (by kernel_rfl) (by simp) ?_
      refine AllReady.cons rfl (fun K hK => ?_) ?_
      · go_simp
        refine hK _ _ ?_
        clear hK K
        refine wpAny_ready (rs := [2, 4]) (by kernel_rfl) (by simp) ?_
        refine AllReady.cons rfl (fun K hK => ?_) ?_
        · go_simp
          refine (hX.out p (.ok (q, x)) _ (by first | exact h.out.drew | exact (h.out.alloc G _).drew) hp hr).mono ?_
          rintro e w1 ⟨hg1, ⟨v1, rfl, a1, c1', n1, rfl, hq1⟩, hd1⟩
          have HG1 : Hid (w.grownBy w1 (some E.R)) := (by first | exact grown_undrew hg1 | exact grown_tr (grown_alloc (grown_bel (Below.refl _ w)) _) (grown_undrew hg1))
          have HK1 : Hid (KAt E N w1 its (.slice av its.length cv) n) := HK.out.kept HG1.out (by omega)
          have HQ1 : Hid (ExQ (fun b => w.heap.size ≤ b ∧ b < w1.heap.size) w1 n1 x a1) := hq1.keep (fun b hb => ⟨⟨by first | exact hb.1 | (have h1 := hb.1; simp at h1; omega), hb.2⟩, rfl⟩)
          have HD1 := hide2 hd1
          have hs1 := HG1.out.size
          (try have HZ1 : Hid (w1.heap[w.heap.size]? = some ZE) := kept_on (grown_undrew hg1) (by omega) (heap_alloc_new w ZE))
          have k0 := kat_ob HK1.out
          have k1 := kat_rb HK1.out
          have k0a : (w1.alloc ZE).cell? ⟨N + 1, 0, none⟩ = some (.slice av its.length cv) := cell_alloc k0 (by omega)
          clear hg1 hq1 hd1
          refine hK _ _ ?_
          clear hK K
          refine wpAny_ready (rs := [4]) (by kernel_rfl) (by simp) ?_
          refine AllReady.cons rfl (fun K hK => ?_) ?_
          · go_simp
            refine hK _ _ ?_
            clear hK K
            refine wpAny_ready (rs := [5]) (by kernel_rfl) (by simp) ?_
            refine AllReady.cons rfl (fun K hK => ?_) ?_
            · skip
              refine step_append_where rfl (.tmp 2) (.tmp 6) 62 rfl (N + 2) 64 i0 _ 4 56 Tryz.underlying62 hi hz0 hz1 hz2 rfl (by decide) (.slice av its.length cv) its.length (cells4 its) rfl (by first | exact HK1.out.row.alloc _ | exact HK1.out.row) ⟨_, 0, none⟩ 1 1 z4 rfl rfl (by first | exact z4_news _ | exact z4_at HZ1.out) z4_one (by decide) (by unfold maxLen; omega) (by omega) (by first | omega | (simp; omega)) ?_
              intro g cap w4 hown4 hg4 hw4
              have HA := hide2 (apd_mk (w := w) HK.out hown4 hg4 hw4 (by first | exact HK1.out.kept (grown_alloc (grown_bel (Below.refl _ w1)) _) (by omega) | exact HK1.out) (by first | exact (HQ1.out.keep (fun b hb => ⟨⟨hb.1, by simp; omega⟩, Below.heap_alloc _ _ _ hb.2⟩)) | exact HQ1.out) (by first | exact grown_alloc (grown_tr hg0.out HG1.out) _ | exact grown_tr hg0.out HG1.out) (by first | exact HD1.out.alloc G _ | exact HD1.out))
              obtain ⟨⟨m0, m1, m2, m3⟩, ⟨l0, l1, l2, l3⟩, o0, of0, r0, hne1, hne2⟩ := HA.out.facts
              clear hown4 hg4 hw4
              refine hK _ _ ?_
              clear hK K
              simp only [Act.put]
              refine wpAny_ready (rs := [6, 8]) (by kernel_rfl) (by simp) ?_
              refine AllReady.cons rfl (fun K hK => ?_) ?_
              · go_simp
                refine hK _ _ ?_
                clear hK K
                refine wpAny_ready (rs := [7, 8]) (by kernel_rfl) (by simp) ?_
                refine AllReady.cons rfl (fun K hK => ?_) ?_
                · go_simp
                  refine hK _ _ ?_
                  clear hK K
                  refine wpAny_ready (rs := [8]) (by kernel_rfl) (by simp) ?_
                  refine AllReady.cons rfl (fun K hK => ?_) ?_
                  · go_simp
                    refine hK _ _ ?_
                    clear hK K
                    refine wpAny_done (by kernel_rfl) ?_ _
                    go_wp2
                    go_end0
                    exact Apd.done (c := c1') G HA.out hN hR HOUT.out (Or.inl rfl)
                  exact AllReady.nil
                refine AllReady.cons rfl (fun K hK => ?_) ?_
                · go_simp
                  refine hK _ _ ?_
                  clear hK K
                  refine wpAny_ready (rs := [7]) (by kernel_rfl) (by simp) ?_
                  refine AllReady.cons rfl (fun K hK => ?_) ?_
                  · go_simp
                    refine hK _ _ ?_
                    clear hK K
                    refine wpAny_done (by kernel_rfl) ?_ _
                    go_wp2
                    go_end0
                    exact Apd.done (c := c1') G HA.out hN hR HOUT.out (Or.inr rfl)
                  exact AllReady.nil
                exact AllReady.nil
              refine AllReady.cons rfl (fun K hK => ?_) ?_
              · go_simp
                refine hK _ _ ?_
                clear hK K
                refine wpAny_ready (rs := [6]) (by kernel_rfl) (by simp) ?_
                refine AllReady.cons rfl (fun K hK => ?_) ?_
                · go_simp
                  refine hK _ _ ?_
                  clear hK K
                  refine wpAny_ready (rs := [7]) (by kernel_rfl) (by simp) ?_
                  refine AllReady.cons rfl (fun K hK => ?_) ?_
                  · go_simp
                    refine hK _ _ ?_
                    clear hK K
                    refine wpAny_done (by kernel_rfl) ?_ _
                    go_wp2
                    go_end0
                    exact Apd.done (c := c1') G HA.out hN hR HOUT.out (Or.inr rfl)
                  exact AllReady.nil
                exact AllReady.nil
              exact AllReady.nil
            exact AllReady.nil
          exact AllReady.nil
        refine AllReady.cons rfl (fun K hK => ?_) ?_
        · go_simp
          refine hK _ _ ?_
          clear hK K
          refine wpAny_ready (rs := [2]) (by kernel_rfl) (by simp) ?_
          refine AllReady.cons rfl (fun K hK => ?_) ?_
          · go_simp
            refine (hX.out p (.ok (q, x)) _ (by first | exact h.out.drew | exact (h.out.alloc G _).drew) hp hr).mono ?_
            rintro e w1 ⟨hg1, ⟨v1, rfl, a1, c1', n1, rfl, hq1⟩, hd1⟩
            have HG1 : Hid (w.grownBy w1 (some E.R)) := (by first | exact grown_undrew hg1 | exact grown_tr (grown_alloc (grown_bel (Below.refl _ w)) _) (grown_undrew hg1))
            have HK1 : Hid (KAt E N w1 its (.slice av its.length cv) n) := HK.out.kept HG1.out (by omega)
            have HQ1 : Hid (ExQ (fun b => w.heap.size ≤ b ∧ b < w1.heap.size) w1 n1 x a1) := hq1.keep (fun b hb => ⟨⟨by first | exact hb.1 | (have h1 := hb.1; simp at h1; omega), hb.2⟩, rfl⟩)
            have HD1 := hide2 hd1
            have hs1 := HG1.out.size
            (try have HZ1 : Hid (w1.heap[w.heap.size]? = some ZE) := kept_on (grown_undrew hg1) (by omega) (heap_alloc_new w ZE))
            have k0 := kat_ob HK1.out
            have k1 := kat_rb HK1.out
            have k0a : (w1.alloc ZE).cell? ⟨N + 1, 0, none⟩ = some (.slice av its.length cv) := cell_alloc k0 (by omega)
            clear hg1 hq1 hd1
            refine hK _ _ ?_
            clear hK K
            refine wpAny_ready (rs := [5]) (by kernel_rfl) (by simp) ?_
            refine AllReady.cons rfl (fun K hK => ?_) ?_
            · skip
              refine step_append_where rfl (.tmp 2) (.tmp 6) 62 rfl (N + 2) 64 i0 _ 4 56 Tryz.underlying62 hi hz0 hz1 hz2 rfl (by decide) (.slice av its.length cv) its.length (cells4 its) rfl (by first | exact HK1.out.row.alloc _ | exact HK1.out.row) ⟨_, 0, none⟩ 1 1 z4 rfl rfl (by first | exact z4_news _ | exact z4_at HZ1.out) z4_one (by decide) (by unfold maxLen; omega) (by omega) (by first | omega | (simp; omega)) ?_
              intro g cap w4 hown4 hg4 hw4
              have HA := hide2 (apd_mk (w := w) HK.out hown4 hg4 hw4 (by first | exact HK1.out.kept (grown_alloc (grown_bel (Below.refl _ w1)) _) (by omega) | exact HK1.out) (by first | exact (HQ1.out.keep (fun b hb => ⟨⟨hb.1, by simp; omega⟩, Below.heap_alloc _ _ _ hb.2⟩)) | exact HQ1.out) (by first | exact grown_alloc (grown_tr hg0.out HG1.out) _ | exact grown_tr hg0.out HG1.out) (by first | exact HD1.out.alloc G _ | exact HD1.out))
              obtain ⟨⟨m0, m1, m2, m3⟩, ⟨l0, l1, l2, l3⟩, o0, of0, r0, hne1, hne2⟩ := HA.out.facts
              clear hown4 hg4 hw4
              refine hK _ _ ?_
              clear hK K
              simp only [Act.put]
              refine wpAny_ready (rs := [6, 8]) (by kernel_rfl) (by simp) ?_
              refine AllReady.cons rfl (fun K hK => ?_) ?_
              · go_simp
                refine hK _ _ ?_
                clear hK K
                refine wpAny_ready (rs := [7, 8]) (by kernel_rfl) (by simp) ?_
                refine AllReady.cons rfl (fun K hK => ?_) ?_
                · go_simp
                  refine hK _ _ ?_
                  clear hK K
                  refine wpAny_ready (rs := [8]) (by kernel_rfl) (by simp) ?_
                  refine AllReady.cons rfl (fun K hK => ?_) ?_
                  · go_simp
                    refine hK _ _ ?_
                    clear hK K
                    refine wpAny_done (by kernel_rfl) ?_ _
                    go_wp2
                    go_end0
                    exact Apd.done (c := c1') G HA.out hN hR HOUT.out (Or.inl rfl)
                  exact AllReady.nil
                refine AllReady.cons rfl (fun K hK => ?_) ?_
                · go_simp
                  refine hK _ _ ?_
                  clear hK K
                  refine wpAny_ready (rs := [7]) (by kernel_rfl) (by simp) ?_
                  refine AllReady.cons rfl (fun K hK => ?_) ?_
                  · go_simp
                    refine hK _ _ ?_
                    clear hK K
                    refine wpAny_done (by kernel_rfl) ?_ _
                    go_wp2
                    go_end0
                    exact Apd.done (c := c1') G HA.out hN hR HOUT.out (Or.inr rfl)
                  exact AllReady.nil
                exact AllReady.nil
              refine AllReady.cons rfl (fun K hK => ?_) ?_
              · go_simp
                refine hK _ _ ?_
                clear hK K
                refine wpAny_ready (rs := [6]) (by kernel_rfl) (by simp) ?_
                refine AllReady.cons rfl (fun K hK => ?_) ?_
                · go_simp
                  refine hK _ _ ?_
                  clear hK K
                  refine wpAny_ready (rs := [7]) (by kernel_rfl) (by simp) ?_
                  refine AllReady.cons rfl (fun K hK => ?_) ?_
                  · go_simp
                    refine hK _ _ ?_
                    clear hK K
                    refine wpAny_done (by kernel_rfl) ?_ _
                    go_wp2
                    go_end0
                    exact Apd.done (c := c1') G HA.out hN hR HOUT.out (Or.inr rfl)
                  exact AllReady.nil
                exact AllReady.nil
              exact AllReady.nil
            exact AllReady.nil
          exact AllReady.nil
        exact AllReady.nil
      refine AllReady.cons rfl (fun K hK => ?_) ?_
      · go_simp
        refine hK _ _ ?_
        clear hK K
        refine wpAny_ready (rs := [1]) (by kernel_rfl) (by simp) ?_
        refine AllReady.cons rfl (fun K hK => ?_) ?_
        · go_simp
          refine hK _ _ ?_
          clear hK K
          refine wpAny_ready (rs := [2]) (by kernel_rfl) (by simp) ?_
          refine AllReady.cons rfl (fun K hK => ?_) ?_
          · go_simp
            refine (hX.out p (.ok (q, x)) _ (by first | exact h.out.drew | exact (h.out.alloc G _).drew) hp hr).mono ?_
            rintro e w1 ⟨hg1, ⟨v1, rfl, a1, c1', n1, rfl, hq1⟩, hd1⟩
            have HG1 : Hid (w.grownBy w1 (some E.R)) := (by first | exact grown_undrew hg1 | exact grown_tr (grown_alloc (grown_bel (Below.refl _ w)) _) (grown_undrew hg1))
            have HK1 : Hid (KAt E N w1 its (.slice av its.length cv) n) := HK.out.kept HG1.out (by omega)
            have HQ1 : Hid (ExQ (fun b => w.heap.size ≤ b ∧ b < w1.heap.size) w1 n1 x a1) := hq1.keep (fun b hb => ⟨⟨by first | exact hb.1 | (have h1 := hb.1; simp at h1; omega), hb.2⟩, rfl⟩)
            have HD1 := hide2 hd1
            have hs1 := HG1.out.size
            (try have HZ1 : Hid (w1.heap[w.heap.size]? = some ZE) := kept_on (grown_undrew hg1) (by omega) (heap_alloc_new w ZE))
            have k0 := kat_ob HK1.out
            have k1 := kat_rb HK1.out
            have k0a : (w1.alloc ZE).cell? ⟨N + 1, 0, none⟩ = some (.slice av its.length cv) := cell_alloc k0 (by omega)
            clear hg1 hq1 hd1
            refine hK _ _ ?_
            clear hK K
            refine wpAny_ready (rs := [5]) (by kernel_rfl) (by simp) ?_
            refine AllReady.cons rfl (fun K hK => ?_) ?_
            · skip
              refine step_append_where rfl (.tmp 2) (.tmp 6) 62 rfl (N + 2) 64 i0 _ 4 56 Tryz.underlying62 hi hz0 hz1 hz2 rfl (by decide) (.slice av its.length cv) its.length (cells4 its) rfl (by first | exact HK1.out.row.alloc _ | exact HK1.out.row) ⟨_, 0, none⟩ 1 1 z4 rfl rfl (by first | exact z4_news _ | exact z4_at HZ1.out) z4_one (by decide) (by unfold maxLen; omega) (by omega) (by first | omega | (simp; omega)) ?_
              intro g cap w4 hown4 hg4 hw4
              have HA := hide2 (apd_mk (w := w) HK.out hown4 hg4 hw4 (by first | exact HK1.out.kept (grown_alloc (grown_bel (Below.refl _ w1)) _) (by omega) | exact HK1.out) (by first | exact (HQ1.out.keep (fun b hb => ⟨⟨hb.1, by simp; omega⟩, Below.heap_alloc _ _ _ hb.2⟩)) | exact HQ1.out) (by first | exact grown_alloc (grown_tr hg0.out HG1.out) _ | exact grown_tr hg0.out HG1.out) (by first | exact HD1.out.alloc G _ | exact HD1.out))
              obtain ⟨⟨m0, m1, m2, m3⟩, ⟨l0, l1, l2, l3⟩, o0, of0, r0, hne1, hne2⟩ := HA.out.facts
              clear hown4 hg4 hw4
              refine hK _ _ ?_
              clear hK K
              simp only [Act.put]
              refine wpAny_ready (rs := [6, 8]) (by kernel_rfl) (by simp) ?_
              refine AllReady.cons rfl (fun K hK => ?_) ?_
              · go_simp
                refine hK _ _ ?_
                clear hK K
                refine wpAny_ready (rs := [7, 8]) (by kernel_rfl) (by simp) ?_
                refine AllReady.cons rfl (fun K hK => ?_) ?_
                · go_simp
                  refine hK _ _ ?_
                  clear hK K
                  refine wpAny_ready (rs := [8]) (by kernel_rfl) (by simp) ?_
                  refine AllReady.cons rfl (fun K hK => ?_) ?_
                  · go_simp
                    refine hK _ _ ?_
                    clear hK K
                    refine wpAny_done (by kernel_rfl) ?_ _
                    go_wp2
                    go_end0
                    exact Apd.done (c := c1') G HA.out hN hR HOUT.out (Or.inl rfl)
                  exact AllReady.nil
                refine AllReady.cons rfl (fun K hK => ?_) ?_
                · go_simp
                  refine hK _ _ ?_
                  clear hK K
                  refine wpAny_ready (rs := [7]) (by kernel_rfl) (by simp) ?_
                  refine AllReady.cons rfl (fun K hK => ?_) ?_
                  · go_simp
                    refine hK _ _ ?_
                    clear hK K
                    refine wpAny_done (by kernel_rfl) ?_ _
                    go_wp2
                    go_end0
                    exact Apd.done (c := c1') G HA.out hN hR HOUT.out (Or.inr rfl)
                  exact AllReady.nil
                exact AllReady.nil
              refine AllReady.cons rfl (fun K hK => ?_) ?_
              · go_simp
                refine hK _ _ ?_
                clear hK K
                refine wpAny_ready (rs := [6]) (by kernel_rfl) (by simp) ?_
                refine AllReady.cons rfl (fun K hK => ?_) ?_
                · go_simp
                  refine hK _ _ ?_
                  clear hK K
                  refine wpAny_ready (rs := [7]) (by kernel_rfl) (by simp) ?_
                  refine AllReady.cons rfl (fun K hK => ?_) ?_
                  · go_simp
                    refine hK _ _ ?_
                    clear hK K
                    refine wpAny_done (by kernel_rfl) ?_ _
                    go_wp2
                    go_end0
                    exact Apd.done (c := c1') G HA.out hN hR HOUT.out (Or.inr rfl)
                  exact AllReady.nil
                exact AllReady.nil
              exact AllReady.nil
            exact AllReady.nil
          exact AllReady.nil
        exact AllReady.nil
      exact AllReady.nil
    refine AllReady.cons rfl (fun K hK => ?_) ?_
    · go_simp
      refine hK _ _ ?_
      clear hK K
      refine wpAny_ready (rs := [0, 2, 4]) (by kernel_rfl) (by simp) ?_
      refine AllReady.cons rfl (fun K hK => ?_) ?_
      · go_simp
        refine hK _ _ ?_
        clear hK K
        refine wpAny_take (i := 3) (v := .int .i64 its.length) rfl (by kernel_rfl) (by kernel_rfl) (by kernel_rfl) (fun _ _ _ h => h) (Or.inl ⟨by rfl, ?_⟩) ?_
        · intro w; go_simp
        simp only [Act.put]
        refine wpAny_ready (rs := [2, 4]) (by kernel_rfl) (by simp) ?_
        refine AllReady.cons rfl (fun K hK => ?_) ?_
        · go_simp
          refine (hX.out p (.ok (q, x)) _ (by first | exact h.out.drew | exact (h.out.alloc G _).drew) hp hr).mono ?_
          rintro e w1 ⟨hg1, ⟨v1, rfl, a1, c1', n1, rfl, hq1⟩, hd1⟩
          have HG1 : Hid (w.grownBy w1 (some E.R)) := (by first | exact grown_undrew hg1 | exact grown_tr (grown_alloc (grown_bel (Below.refl _ w)) _) (grown_undrew hg1))
          have HK1 : Hid (KAt E N w1 its (.slice av its.length cv) n) := HK.out.kept HG1.out (by omega)
          have HQ1 : Hid (ExQ (fun b => w.heap.size ≤ b ∧ b < w1.heap.size) w1 n1 x a1) := hq1.keep (fun b hb => ⟨⟨by first | exact hb.1 | (have h1 := hb.1; simp at h1; omega), hb.2⟩, rfl⟩)
          have HD1 := hide2 hd1
          have hs1 := HG1.out.size
          (try have HZ1 : Hid (w1.heap[w.heap.size]? = some ZE) := kept_on (grown_undrew hg1) (by omega) (heap_alloc_new w ZE))
          have k0 := kat_ob HK1.out
          have k1 := kat_rb HK1.out
          have k0a : (w1.alloc ZE).cell? ⟨N + 1, 0, none⟩ = some (.slice av its.length cv) := cell_alloc k0 (by omega)
          clear hg1 hq1 hd1
          refine hK _ _ ?_
          clear hK K
          refine wpAny_ready (rs := [4]) (by kernel_rfl) (by simp) ?_
          refine AllReady.cons rfl (fun K hK => ?_) ?_
          · go_simp
            refine hK _ _ ?_
            clear hK K
            refine wpAny_ready (rs := [5]) (by kernel_rfl) (by simp) ?_
            refine AllReady.cons rfl (fun K hK => ?_) ?_
            · skip
              refine step_append_where rfl (.tmp 2) (.tmp 6) 62 rfl (N + 2) 64 i0 _ 4 56 Tryz.underlying62 hi hz0 hz1 hz2 rfl (by decide) (.slice av its.length cv) its.length (cells4 its) rfl (by first | exact HK1.out.row.alloc _ | exact HK1.out.row) ⟨_, 0, none⟩ 1 1 z4 rfl rfl (by first | exact z4_news _ | exact z4_at HZ1.out) z4_one (by decide) (by unfold maxLen; omega) (by omega) (by first | omega | (simp; omega)) ?_
              intro g cap w4 hown4 hg4 hw4
              have HA := hide2 (apd_mk (w := w) HK.out hown4 hg4 hw4 (by first | exact HK1.out.kept (grown_alloc (grown_bel (Below.refl _ w1)) _) (by omega) | exact HK1.out) (by first | exact (HQ1.out.keep (fun b hb => ⟨⟨hb.1, by simp; omega⟩, Below.heap_alloc _ _ _ hb.2⟩)) | exact HQ1.out) (by first | exact grown_alloc (grown_tr hg0.out HG1.out) _ | exact grown_tr hg0.out HG1.out) (by first | exact HD1.out.alloc G _ | exact HD1.out))
              obtain ⟨⟨m0, m1, m2, m3⟩, ⟨l0, l1, l2, l3⟩, o0, of0, r0, hne1, hne2⟩ := HA.out.facts
              clear hown4 hg4 hw4
              refine hK _ _ ?_
              clear hK K
              simp only [Act.put]
              refine wpAny_ready (rs := [6, 8]) (by kernel_rfl) (by simp) ?_
              refine AllReady.cons rfl (fun K hK => ?_) ?_
              · go_simp
                refine hK _ _ ?_
                clear hK K
                refine wpAny_ready (rs := [7, 8]) (by kernel_rfl) (by simp) ?_
                refine AllReady.cons rfl (fun K hK => ?_) ?_
                · go_simp
                  refine hK _ _ ?_
                  clear hK K
                  refine wpAny_ready (rs := [8]) (by kernel_rfl) (by simp) ?_
                  refine AllReady.cons rfl (fun K hK => ?_) ?_
                  · go_simp
                    refine hK _ _ ?_
                    clear hK K
                    refine wpAny_done (by kernel_rfl) ?_ _
                    go_wp2
                    go_end0
                    exact Apd.done (c := c1') G HA.out hN hR HOUT.out (Or.inl rfl)
                  exact AllReady.nil
                refine AllReady.cons rfl (fun K hK => ?_) ?_
                · go_simp
                  refine hK _ _ ?_
                  clear hK K
                  refine wpAny_ready (rs := [7]) (by kernel_rfl) (by simp) ?_
                  refine AllReady.cons rfl (fun K hK => ?_) ?_
                  · go_simp
                    refine hK _ _ ?_
                    clear hK K
                    refine wpAny_done (by kernel_rfl) ?_ _
                    go_wp2
                    go_end0
                    exact Apd.done (c := c1') G HA.out hN hR HOUT.out (Or.inr rfl)
                  exact AllReady.nil
                exact AllReady.nil
              refine AllReady.cons rfl (fun K hK => ?_) ?_
              · go_simp
                refine hK _ _ ?_
                clear hK K
                refine wpAny_ready (rs := [6]) (by kernel_rfl) (by simp) ?_
                refine AllReady.cons rfl (fun K hK => ?_) ?_
                · go_simp
                  refine hK _ _ ?_
                  clear hK K
                  refine wpAny_ready (rs := [7]) (by kernel_rfl) (by simp) ?_
                  refine AllReady.cons rfl (fun K hK => ?_) ?_
                  · go_simp
                    refine hK _ _ ?_
                    clear hK K
                    refine wpAny_done (by kernel_rfl) ?_ _
                    go_wp2
                    go_end0
                    exact Apd.done (c := c1') G HA.out hN hR HOUT.out (Or.inr rfl)
                  exact AllReady.nil
                exact AllReady.nil
              exact AllReady.nil
            exact AllReady.nil
          exact AllReady.nil
        refine AllReady.cons rfl (fun K hK => ?_) ?_
        · go_simp
          refine hK _ _ ?_
          clear hK K
          refine wpAny_ready (rs := [2]) (by kernel_rfl) (by simp) ?_
          refine AllReady.cons rfl (fun K hK => ?_) ?_
          · go_simp
            refine (hX.out p (.ok (q, x)) _ (by first | exact h.out.drew | exact (h.out.alloc G _).drew) hp hr).mono ?_
            rintro e w1 ⟨hg1, ⟨v1, rfl, a1, c1', n1, rfl, hq1⟩, hd1⟩
            have HG1 : Hid (w.grownBy w1 (some E.R)) := (by first | exact grown_undrew hg1 | exact grown_tr (grown_alloc (grown_bel (Below.refl _ w)) _) (grown_undrew hg1))
            have HK1 : Hid (KAt E N w1 its (.slice av its.length cv) n) := HK.out.kept HG1.out (by omega)
            have HQ1 : Hid (ExQ (fun b => w.heap.size ≤ b ∧ b < w1.heap.size) w1 n1 x a1) := hq1.keep (fun b hb => ⟨⟨by first | exact hb.1 | (have h1 := hb.1; simp at h1; omega), hb.2⟩, rfl⟩)
            have HD1 := hide2 hd1
            have hs1 := HG1.out.size
            (try have HZ1 : Hid (w1.heap[w.heap.size]? = some ZE) := kept_on (grown_undrew hg1) (by omega) (heap_alloc_new w ZE))
            have k0 := kat_ob HK1.out
            have k1 := kat_rb HK1.out
            have k0a : (w1.alloc ZE).cell? ⟨N + 1, 0, none⟩ = some (.slice av its.length cv) := cell_alloc k0 (by omega)
            clear hg1 hq1 hd1
            refine hK _ _ ?_
            clear hK K
            refine wpAny_ready (rs := [5]) (by kernel_rfl) (by simp) ?_
            refine AllReady.cons rfl (fun K hK => ?_) ?_
            · skip
              refine step_append_where rfl (.tmp 2) (.tmp 6) 62 rfl (N + 2) 64 i0 _ 4 56 Tryz.underlying62 hi hz0 hz1 hz2 rfl (by decide) (.slice av its.length cv) its.length (cells4 its) rfl (by first | exact HK1.out.row.alloc _ | exact HK1.out.row) ⟨_, 0, none⟩ 1 1 z4 rfl rfl (by first | exact z4_news _ | exact z4_at HZ1.out) z4_one (by decide) (by unfold maxLen; omega) (by omega) (by first | omega | (simp; omega)) ?_
              intro g cap w4 hown4 hg4 hw4
              have HA := hide2 (apd_mk (w := w) HK.out hown4 hg4 hw4 (by first | exact HK1.out.kept (grown_alloc (grown_bel (Below.refl _ w1)) _) (by omega) | exact HK1.out) (by first | exact (HQ1.out.keep (fun b hb => ⟨⟨hb.1, by simp; omega⟩, Below.heap_alloc _ _ _ hb.2⟩)) | exact HQ1.out) (by first | exact grown_alloc (grown_tr hg0.out HG1.out) _ | exact grown_tr hg0.out HG1.out) (by first | exact HD1.out.alloc G _ | exact HD1.out))
              obtain ⟨⟨m0, m1, m2, m3⟩, ⟨l0, l1, l2, l3⟩, o0, of0, r0, hne1, hne2⟩ := HA.out.facts
              clear hown4 hg4 hw4
              refine hK _ _ ?_
              clear hK K
              simp only [Act.put]
              refine wpAny_ready (rs := [6, 8]) (by kernel_rfl) (by simp) ?_
              refine AllReady.cons rfl (fun K hK => ?_) ?_
              · go_simp
                refine hK _ _ ?_
                clear hK K
                refine wpAny_ready (rs := [7, 8]) (by kernel_rfl) (by simp) ?_
                refine AllReady.cons rfl (fun K hK => ?_) ?_
                · go_simp
                  refine hK _ _ ?_
                  clear hK K
                  refine wpAny_ready (rs := [8]) (by kernel_rfl) (by simp) ?_
                  refine AllReady.cons rfl (fun K hK => ?_) ?_
                  · go_simp
                    refine hK _ _ ?_
                    clear hK K
                    refine wpAny_done (by kernel_rfl) ?_ _
                    go_wp2
                    go_end0
                    exact Apd.done (c := c1') G HA.out hN hR HOUT.out (Or.inl rfl)
                  exact AllReady.nil
                refine AllReady.cons rfl (fun K hK => ?_) ?_
                · go_simp
                  refine hK _ _ ?_
                  clear hK K
                  refine wpAny_ready (rs := [7]) (by kernel_rfl) (by simp) ?_
                  refine AllReady.cons rfl (fun K hK => ?_) ?_
                  · go_simp
                    refine hK _ _ ?_
                    clear hK K
                    refine wpAny_done (by kernel_rfl) ?_ _
                    go_wp2
                    go_end0
                    exact Apd.done (c := c1') G HA.out hN hR HOUT.out (Or.inr rfl)
                  exact AllReady.nil
                exact AllReady.nil
              refine AllReady.cons rfl (fun K hK => ?_) ?_
              · go_simp
                refine hK _ _ ?_
                clear hK K
                refine wpAny_ready (rs := [6]) (by kernel_rfl) (by simp) ?_
                refine AllReady.cons rfl (fun K hK => ?_) ?_
                · go_simp
                  refine hK _ _ ?_
                  clear hK K
                  refine wpAny_ready (rs := [7]) (by kernel_rfl) (by simp) ?_
                  refine AllReady.cons rfl (fun K hK => ?_) ?_
                  · go_simp
                    refine hK _ _ ?_
                    clear hK K
                    refine wpAny_done (by kernel_rfl) ?_ _
                    go_wp2
                    go_end0
                    exact Apd.done (c := c1') G HA.out hN hR HOUT.out (Or.inr rfl)
                  exact AllReady.nil
                exact AllReady.nil
              exact AllReady.nil
            exact AllReady.nil
          exact AllReady.nil
        exact AllReady.nil
      refine AllReady.cons rfl (fun K hK => ?_) ?_
      · go_simp
        refine (hX.out p (.ok (q, x)) _ (by first | exact h.out.drew | exact (h.out.alloc G _).drew) hp hr).mono ?_
        rintro e w1 ⟨hg1, ⟨v1, rfl, a1, c1', n1, rfl, hq1⟩, hd1⟩
        have HG1 : Hid (w.grownBy w1 (some E.R)) := (by first | exact grown_undrew hg1 | exact grown_tr (grown_alloc (grown_bel (Below.refl _ w)) _) (grown_undrew hg1))
        have HK1 : Hid (KAt E N w1 its (.slice av its.length cv) n) := HK.out.kept HG1.out (by omega)
        have HQ1 : Hid (ExQ (fun b => w.heap.size ≤ b ∧ b < w1.heap.size) w1 n1 x a1) := hq1.keep (fun b hb => ⟨⟨by first | exact hb.1 | (have h1 := hb.1; simp at h1; omega), hb.2⟩, rfl⟩)
        have HD1 := hide2 hd1
        have hs1 := HG1.out.size
        (try have HZ1 : Hid (w1.heap[w.heap.size]? = some ZE) := kept_on (grown_undrew hg1) (by omega) (heap_alloc_new w ZE))
        have k0 := kat_ob HK1.out
        have k1 := kat_rb HK1.out
        have k0a : (w1.alloc ZE).cell? ⟨N + 1, 0, none⟩ = some (.slice av its.length cv) := cell_alloc k0 (by omega)
        clear hg1 hq1 hd1
        refine hK _ _ ?_
        clear hK K
        refine wpAny_ready (rs := [0, 4]) (by kernel_rfl) (by simp) ?_
        refine AllReady.cons rfl (fun K hK => ?_) ?_
        · go_simp
          refine hK _ _ ?_
          clear hK K
          refine wpAny_take (i := 3) (v := .int .i64 its.length) rfl (by kernel_rfl) (by kernel_rfl) (by kernel_rfl) (fun _ _ _ h => h) (Or.inl ⟨by rfl, ?_⟩) ?_
          · intro w; go_simp
          simp only [Act.put]
          refine wpAny_ready (rs := [4]) (by kernel_rfl) (by simp) ?_
          refine AllReady.cons rfl (fun K hK => ?_) ?_
          · go_simp
            refine hK _ _ ?_
            clear hK K
            refine wpAny_ready (rs := [5]) (by kernel_rfl) (by simp) ?_
            refine AllReady.cons rfl (fun K hK => ?_) ?_
            · skip
              refine step_append_where rfl (.tmp 2) (.tmp 6) 62 rfl (N + 2) 64 i0 _ 4 56 Tryz.underlying62 hi hz0 hz1 hz2 rfl (by decide) (.slice av its.length cv) its.length (cells4 its) rfl (by first | exact HK1.out.row.alloc _ | exact HK1.out.row) ⟨_, 0, none⟩ 1 1 z4 rfl rfl (by first | exact z4_news _ | exact z4_at HZ1.out) z4_one (by decide) (by unfold maxLen; omega) (by omega) (by first | omega | (simp; omega)) ?_
              intro g cap w4 hown4 hg4 hw4
              have HA := hide2 (apd_mk (w := w) HK.out hown4 hg4 hw4 (by first | exact HK1.out.kept (grown_alloc (grown_bel (Below.refl _ w1)) _) (by omega) | exact HK1.out) (by first | exact (HQ1.out.keep (fun b hb => ⟨⟨hb.1, by simp; omega⟩, Below.heap_alloc _ _ _ hb.2⟩)) | exact HQ1.out) (by first | exact grown_alloc (grown_tr hg0.out HG1.out) _ | exact grown_tr hg0.out HG1.out) (by first | exact HD1.out.alloc G _ | exact HD1.out))
              obtain ⟨⟨m0, m1, m2, m3⟩, ⟨l0, l1, l2, l3⟩, o0, of0, r0, hne1, hne2⟩ := HA.out.facts
              clear hown4 hg4 hw4
              refine hK _ _ ?_
              clear hK K
              simp only [Act.put]
              refine wpAny_ready (rs := [6, 8]) (by kernel_rfl) (by simp) ?_
              refine AllReady.cons rfl (fun K hK => ?_) ?_
              · go_simp
                refine hK _ _ ?_
                clear hK K
                refine wpAny_ready (rs := [7, 8]) (by kernel_rfl) (by simp) ?_
                refine AllReady.cons rfl (fun K hK => ?_) ?_
                · go_simp
                  refine hK _ _ ?_
                  clear hK K
                  refine wpAny_ready (rs := [8]) (by kernel_rfl) (by simp) ?_
                  refine AllReady.cons rfl (fun K hK => ?_) ?_
                  · go_simp
                    refine hK _ _ ?_
                    clear hK K
                    refine wpAny_done (by kernel_rfl) ?_ _
                    go_wp2
                    go_end0
                    exact Apd.done (c := c1') G HA.out hN hR HOUT.out (Or.inl rfl)
                  exact AllReady.nil
                refine AllReady.cons rfl (fun K hK => ?_) ?_
                · go_simp
                  refine hK _ _ ?_
                  clear hK K
                  refine wpAny_ready (rs := [7]) (by kernel_rfl) (by simp) ?_
                  refine AllReady.cons rfl (fun K hK => ?_) ?_
                  · go_simp
                    refine hK _ _ ?_
                    clear hK K
                    refine wpAny_done (by kernel_rfl) ?_ _
                    go_wp2
                    go_end0
                    exact Apd.done (c := c1') G HA.out hN hR HOUT.out (Or.inr rfl)
                  exact AllReady.nil
                exact AllReady.nil
              refine AllReady.cons rfl (fun K hK => ?_) ?_
              · go_simp
                refine hK _ _ ?_
                clear hK K
                refine wpAny_ready (rs := [6]) (by kernel_rfl) (by simp) ?_
                refine AllReady.cons rfl (fun K hK => ?_) ?_
                · go_simp
                  refine hK _ _ ?_
                  clear hK K
                  refine wpAny_ready (rs := [7]) (by kernel_rfl) (by simp) ?_
                  refine AllReady.cons rfl (fun K hK => ?_) ?_
                  · go_simp
                    refine hK _ _ ?_
                    clear hK K
                    refine wpAny_done (by kernel_rfl) ?_ _
                    go_wp2
                    go_end0
                    exact Apd.done (c := c1') G HA.out hN hR HOUT.out (Or.inr rfl)
                  exact AllReady.nil
                exact AllReady.nil
              exact AllReady.nil
            exact AllReady.nil
          exact AllReady.nil
        refine AllReady.cons rfl (fun K hK => ?_) ?_
        · go_simp
          refine hK _ _ ?_
          clear hK K
          refine wpAny_ready (rs := [0]) (by kernel_rfl) (by simp) ?_
          refine AllReady.cons rfl (fun K hK => ?_) ?_
          · go_simp
            refine hK _ _ ?_
            clear hK K
            refine wpAny_take (i := 3) (v := .int .i64 its.length) rfl (by kernel_rfl) (by kernel_rfl) (by kernel_rfl) (fun _ _ _ h => h) (Or.inl ⟨by rfl, ?_⟩) ?_
            · intro w; go_simp
            simp only [Act.put]
            refine wpAny_ready (rs := [5]) (by kernel_rfl) (by simp) ?_
            refine AllReady.cons rfl (fun K hK => ?_) ?_
            · skip
              refine step_append_where rfl (.tmp 2) (.tmp 6) 62 rfl (N + 2) 64 i0 _ 4 56 Tryz.underlying62 hi hz0 hz1 hz2 rfl (by decide) (.slice av its.length cv) its.length (cells4 its) rfl (by first | exact HK1.out.row.alloc _ | exact HK1.out.row) ⟨_, 0, none⟩ 1 1 z4 rfl rfl (by first | exact z4_news _ | exact z4_at HZ1.out) z4_one (by decide) (by unfold maxLen; omega) (by omega) (by first | omega | (simp; omega)) ?_
              intro g cap w4 hown4 hg4 hw4
              have HA := hide2 (apd_mk (w := w) HK.out hown4 hg4 hw4 (by first | exact HK1.out.kept (grown_alloc (grown_bel (Below.refl _ w1)) _) (by omega) | exact HK1.out) (by first | exact (HQ1.out.keep (fun b hb => ⟨⟨hb.1, by simp; omega⟩, Below.heap_alloc _ _ _ hb.2⟩)) | exact HQ1.out) (by first | exact grown_alloc (grown_tr hg0.out HG1.out) _ | exact grown_tr hg0.out HG1.out) (by first | exact HD1.out.alloc G _ | exact HD1.out))
              obtain ⟨⟨m0, m1, m2, m3⟩, ⟨l0, l1, l2, l3⟩, o0, of0, r0, hne1, hne2⟩ := HA.out.facts
              clear hown4 hg4 hw4
              refine hK _ _ ?_
              clear hK K
              simp only [Act.put]
              refine wpAny_ready (rs := [6, 8]) (by kernel_rfl) (by simp) ?_
              refine AllReady.cons rfl (fun K hK => ?_) ?_
              · go_simp
                refine hK _ _ ?_
                clear hK K
                refine wpAny_ready (rs := [7, 8]) (by kernel_rfl) (by simp) ?_
                refine AllReady.cons rfl (fun K hK => ?_) ?_
                · go_simp
                  refine hK _ _ ?_
                  clear hK K
                  refine wpAny_ready (rs := [8]) (by kernel_rfl) (by simp) ?_
                  refine AllReady.cons rfl (fun K hK => ?_) ?_
                  · go_simp
                    refine hK _ _ ?_
                    clear hK K
                    refine wpAny_done (by kernel_rfl) ?_ _
                    go_wp2
                    go_end0
                    exact Apd.done (c := c1') G HA.out hN hR HOUT.out (Or.inl rfl)
                  exact AllReady.nil
                refine AllReady.cons rfl (fun K hK => ?_) ?_
                · go_simp
                  refine hK _ _ ?_
                  clear hK K
                  refine wpAny_ready (rs := [7]) (by kernel_rfl) (by simp) ?_
                  refine AllReady.cons rfl (fun K hK => ?_) ?_
                  · go_simp
                    refine hK _ _ ?_
                    clear hK K
                    refine wpAny_done (by kernel_rfl) ?_ _
                    go_wp2
                    go_end0
                    exact Apd.done (c := c1') G HA.out hN hR HOUT.out (Or.inr rfl)
                  exact AllReady.nil
                exact AllReady.nil
              refine AllReady.cons rfl (fun K hK => ?_) ?_
              · go_simp
                refine hK _ _ ?_
                clear hK K
                refine wpAny_ready (rs := [6]) (by kernel_rfl) (by simp) ?_
                refine AllReady.cons rfl (fun K hK => ?_) ?_
                · go_simp
                  refine hK _ _ ?_
                  clear hK K
                  refine wpAny_ready (rs := [7]) (by kernel_rfl) (by simp) ?_
                  refine AllReady.cons rfl (fun K hK => ?_) ?_
                  · go_simp
                    refine hK _ _ ?_
                    clear hK K
                    refine wpAny_done (by kernel_rfl) ?_ _
                    go_wp2
                    go_end0
                    exact Apd.done (c := c1') G HA.out hN hR HOUT.out (Or.inr rfl)
                  exact AllReady.nil
                exact AllReady.nil
              exact AllReady.nil
            exact AllReady.nil
          exact AllReady.nil
        exact AllReady.nil
      refine AllReady.cons rfl (fun K hK => ?_) ?_
      · go_simp
        refine hK _ _ ?_
        clear hK K
        refine wpAny_ready (rs := [0, 2]) (by kernel_rfl) (by simp) ?_
        refine AllReady.cons rfl (fun K hK => ?_) ?_
        · go_simp
          refine hK _ _ ?_
          clear hK K
          refine wpAny_take (i := 3) (v := .int .i64 its.length) rfl (by kernel_rfl) (by kernel_rfl) (by kernel_rfl) (fun _ _ _ h => h) (Or.inl ⟨by rfl, ?_⟩) ?_
          · intro w; go_simp
          simp only [Act.put]
          refine wpAny_ready (rs := [2]) (by kernel_rfl) (by simp) ?_
          refine AllReady.cons rfl (fun K hK => ?_) ?_
          · go_simp
            refine (hX.out p (.ok (q, x)) _ (by first | exact h.out.drew | exact (h.out.alloc G _).drew) hp hr).mono ?_
            rintro e w1 ⟨hg1, ⟨v1, rfl, a1, c1', n1, rfl, hq1⟩, hd1⟩
            have HG1 : Hid (w.grownBy w1 (some E.R)) := (by first | exact grown_undrew hg1 | exact grown_tr (grown_alloc (grown_bel (Below.refl _ w)) _) (grown_undrew hg1))
            have HK1 : Hid (KAt E N w1 its (.slice av its.length cv) n) := HK.out.kept HG1.out (by omega)
            have HQ1 : Hid (ExQ (fun b => w.heap.size ≤ b ∧ b < w1.heap.size) w1 n1 x a1) := hq1.keep (fun b hb => ⟨⟨by first | exact hb.1 | (have h1 := hb.1; simp at h1; omega), hb.2⟩, rfl⟩)
            have HD1 := hide2 hd1
            have hs1 := HG1.out.size
            (try have HZ1 : Hid (w1.heap[w.heap.size]? = some ZE) := kept_on (grown_undrew hg1) (by omega) (heap_alloc_new w ZE))
            have k0 := kat_ob HK1.out
            have k1 := kat_rb HK1.out
            have k0a : (w1.alloc ZE).cell? ⟨N + 1, 0, none⟩ = some (.slice av its.length cv) := cell_alloc k0 (by omega)
            clear hg1 hq1 hd1
            refine hK _ _ ?_
            clear hK K
            refine wpAny_ready (rs := [5]) (by kernel_rfl) (by simp) ?_
            refine AllReady.cons rfl (fun K hK => ?_) ?_
            · skip
              refine step_append_where rfl (.tmp 2) (.tmp 6) 62 rfl (N + 2) 64 i0 _ 4 56 Tryz.underlying62 hi hz0 hz1 hz2 rfl (by decide) (.slice av its.length cv) its.length (cells4 its) rfl (by first | exact HK1.out.row.alloc _ | exact HK1.out.row) ⟨_, 0, none⟩ 1 1 z4 rfl rfl (by first | exact z4_news _ | exact z4_at HZ1.out) z4_one (by decide) (by unfold maxLen; omega) (by omega) (by first | omega | (simp; omega)) ?_
              intro g cap w4 hown4 hg4 hw4
              have HA := hide2 (apd_mk (w := w) HK.out hown4 hg4 hw4 (by first | exact HK1.out.kept (grown_alloc (grown_bel (Below.refl _ w1)) _) (by omega) | exact HK1.out) (by first | exact (HQ1.out.keep (fun b hb => ⟨⟨hb.1, by simp; omega⟩, Below.heap_alloc _ _ _ hb.2⟩)) | exact HQ1.out) (by first | exact grown_alloc (grown_tr hg0.out HG1.out) _ | exact grown_tr hg0.out HG1.out) (by first | exact HD1.out.alloc G _ | exact HD1.out))
              obtain ⟨⟨m0, m1, m2, m3⟩, ⟨l0, l1, l2, l3⟩, o0, of0, r0, hne1, hne2⟩ := HA.out.facts
              clear hown4 hg4 hw4
              refine hK _ _ ?_
              clear hK K
              simp only [Act.put]
              refine wpAny_ready (rs := [6, 8]) (by kernel_rfl) (by simp) ?_
              refine AllReady.cons rfl (fun K hK => ?_) ?_
              · go_simp
                refine hK _ _ ?_
                clear hK K
                refine wpAny_ready (rs := [7, 8]) (by kernel_rfl) (by simp) ?_
                refine AllReady.cons rfl (fun K hK => ?_) ?_
                · go_simp
                  refine hK _ _ ?_
                  clear hK K
                  refine wpAny_ready (rs := [8]) (by kernel_rfl) (by simp) ?_
                  refine AllReady.cons rfl (fun K hK => ?_) ?_
                  · go_simp
                    refine hK _ _ ?_
                    clear hK K
                    refine wpAny_done (by kernel_rfl) ?_ _
                    go_wp2
                    go_end0
                    exact Apd.done (c := c1') G HA.out hN hR HOUT.out (Or.inl rfl)
                  exact AllReady.nil
                refine AllReady.cons rfl (fun K hK => ?_) ?_
                · go_simp
                  refine hK _ _ ?_
                  clear hK K
                  refine wpAny_ready (rs := [7]) (by kernel_rfl) (by simp) ?_
                  refine AllReady.cons rfl (fun K hK => ?_) ?_
                  · go_simp
                    refine hK _ _ ?_
                    clear hK K
                    refine wpAny_done (by kernel_rfl) ?_ _
                    go_wp2
                    go_end0
                    exact Apd.done (c := c1') G HA.out hN hR HOUT.out (Or.inr rfl)
                  exact AllReady.nil
                exact AllReady.nil
              refine AllReady.cons rfl (fun K hK => ?_) ?_
              · go_simp
                refine hK _ _ ?_
                clear hK K
                refine wpAny_ready (rs := [6]) (by kernel_rfl) (by simp) ?_
                refine AllReady.cons rfl (fun K hK => ?_) ?_
                · go_simp
                  refine hK _ _ ?_
                  clear hK K
                  refine wpAny_ready (rs := [7]) (by kernel_rfl) (by simp) ?_
                  refine AllReady.cons rfl (fun K hK => ?_) ?_
                  · go_simp
                    refine hK _ _ ?_
                    clear hK K
                    refine wpAny_done (by kernel_rfl) ?_ _
                    go_wp2
                    go_end0
                    exact Apd.done (c := c1') G HA.out hN hR HOUT.out (Or.inr rfl)
                  exact AllReady.nil
                exact AllReady.nil
              exact AllReady.nil
            exact AllReady.nil
          exact AllReady.nil
        refine AllReady.cons rfl (fun K hK => ?_) ?_
        · go_simp
          refine (hX.out p (.ok (q, x)) _ (by first | exact h.out.drew | exact (h.out.alloc G _).drew) hp hr).mono ?_
          rintro e w1 ⟨hg1, ⟨v1, rfl, a1, c1', n1, rfl, hq1⟩, hd1⟩
          have HG1 : Hid (w.grownBy w1 (some E.R)) := (by first | exact grown_undrew hg1 | exact grown_tr (grown_alloc (grown_bel (Below.refl _ w)) _) (grown_undrew hg1))
          have HK1 : Hid (KAt E N w1 its (.slice av its.length cv) n) := HK.out.kept HG1.out (by omega)
          have HQ1 : Hid (ExQ (fun b => w.heap.size ≤ b ∧ b < w1.heap.size) w1 n1 x a1) := hq1.keep (fun b hb => ⟨⟨by first | exact hb.1 | (have h1 := hb.1; simp at h1; omega), hb.2⟩, rfl⟩)
          have HD1 := hide2 hd1
          have hs1 := HG1.out.size
          (try have HZ1 : Hid (w1.heap[w.heap.size]? = some ZE) := kept_on (grown_undrew hg1) (by omega) (heap_alloc_new w ZE))
          have k0 := kat_ob HK1.out
          have k1 := kat_rb HK1.out
          have k0a : (w1.alloc ZE).cell? ⟨N + 1, 0, none⟩ = some (.slice av its.length cv) := cell_alloc k0 (by omega)
          clear hg1 hq1 hd1
          refine hK _ _ ?_
          clear hK K
          refine wpAny_ready (rs := [0]) (by kernel_rfl) (by simp) ?_
          refine AllReady.cons rfl (fun K hK => ?_) ?_
          · go_simp
            refine hK _ _ ?_
            clear hK K
            refine wpAny_take (i := 3) (v := .int .i64 its.length) rfl (by kernel_rfl) (by kernel_rfl) (by kernel_rfl) (fun _ _ _ h => h) (Or.inl ⟨by rfl, ?_⟩) ?_
            · intro w; go_simp
            simp only [Act.put]
            refine wpAny_ready (rs := [5]) (by kernel_rfl) (by simp) ?_
            refine AllReady.cons rfl (fun K hK => ?_) ?_
            · skip
              refine step_append_where rfl (.tmp 2) (.tmp 6) 62 rfl (N + 2) 64 i0 _ 4 56 Tryz.underlying62 hi hz0 hz1 hz2 rfl (by decide) (.slice av its.length cv) its.length (cells4 its) rfl (by first | exact HK1.out.row.alloc _ | exact HK1.out.row) ⟨_, 0, none⟩ 1 1 z4 rfl rfl (by first | exact z4_news _ | exact z4_at HZ1.out) z4_one (by decide) (by unfold maxLen; omega) (by omega) (by first | omega | (simp; omega)) ?_
              intro g cap w4 hown4 hg4 hw4
              have HA := hide2 (apd_mk (w := w) HK.out hown4 hg4 hw4 (by first | exact HK1.out.kept (grown_alloc (grown_bel (Below.refl _ w1)) _) (by omega) | exact HK1.out) (by first | exact (HQ1.out.keep (fun b hb => ⟨⟨hb.1, by simp; omega⟩, Below.heap_alloc _ _ _ hb.2⟩)) | exact HQ1.out) (by first | exact grown_alloc (grown_tr hg0.out HG1.out) _ | exact grown_tr hg0.out HG1.out) (by first | exact HD1.out.alloc G _ | exact HD1.out))
              obtain ⟨⟨m0, m1, m2, m3⟩, ⟨l0, l1, l2, l3⟩, o0, of0, r0, hne1, hne2⟩ := HA.out.facts
              clear hown4 hg4 hw4
              refine hK _ _ ?_
              clear hK K
              simp only [Act.put]
              refine wpAny_ready (rs := [6, 8]) (by kernel_rfl) (by simp) ?_
              refine AllReady.cons rfl (fun K hK => ?_) ?_
              · go_simp
                refine hK _ _ ?_
                clear hK K
                refine wpAny_ready (rs := [7, 8]) (by kernel_rfl) (by simp) ?_
                refine AllReady.cons rfl (fun K hK => ?_) ?_
                · go_simp
                  refine hK _ _ ?_
                  clear hK K
                  refine wpAny_ready (rs := [8]) (by kernel_rfl) (by simp) ?_
                  refine AllReady.cons rfl (fun K hK => ?_) ?_
                  · go_simp
                    refine hK _ _ ?_
                    clear hK K
                    refine wpAny_done (by kernel_rfl) ?_ _
                    go_wp2
                    go_end0
                    exact Apd.done (c := c1') G HA.out hN hR HOUT.out (Or.inl rfl)
                  exact AllReady.nil
                refine AllReady.cons rfl (fun K hK => ?_) ?_
                · go_simp
                  refine hK _ _ ?_
                  clear hK K
                  refine wpAny_ready (rs := [7]) (by kernel_rfl) (by simp) ?_
                  refine AllReady.cons rfl (fun K hK => ?_) ?_
                  · go_simp
                    refine hK _ _ ?_
                    clear hK K
                    refine wpAny_done (by kernel_rfl) ?_ _
                    go_wp2
                    go_end0
                    exact Apd.done (c := c1') G HA.out hN hR HOUT.out (Or.inr rfl)
                  exact AllReady.nil
                exact AllReady.nil
              refine AllReady.cons rfl (fun K hK => ?_) ?_
              · go_simp
                refine hK _ _ ?_
                clear hK K
                refine wpAny_ready (rs := [6]) (by kernel_rfl) (by simp) ?_
                refine AllReady.cons rfl (fun K hK => ?_) ?_
                · go_simp
                  refine hK _ _ ?_
                  clear hK K
                  refine wpAny_ready (rs := [7]) (by kernel_rfl) (by simp) ?_
                  refine AllReady.cons rfl (fun K hK => ?_) ?_
                  · go_simp
                    refine hK _ _ ?_
                    clear hK K
                    refine wpAny_done (by kernel_rfl) ?_ _
                    go_wp2
                    go_end0
                    exact Apd.done (c := c1') G HA.out hN hR HOUT.out (Or.inr rfl)
                  exact AllReady.nil
                exact AllReady.nil
              exact AllReady.nil
            exact AllReady.nil
          exact AllReady.nil
        exact AllReady.nil
      exact AllReady.nil
    refine AllReady.cons rfl (fun K hK => ?_) ?_
    · go_simp
      refine hK _ _ ?_
      clear hK K
      refine wpAny_ready (rs := [0, 1]) (by kernel_rfl) (by simp) ?_
      refine AllReady.cons rfl (fun K hK => ?_) ?_
      · go_simp
        refine hK _ _ ?_
        clear hK K
        refine wpAny_take (i := 3) (v := .int .i64 its.length) rfl (by kernel_rfl) (by kernel_rfl) (by kernel_rfl) (fun _ _ _ h => h) (Or.inl ⟨by rfl, ?_⟩) ?_
        · intro w; go_simp
        simp only [Act.put]
        refine wpAny_ready (rs := [1]) (by kernel_rfl) (by simp) ?_
        refine AllReady.cons rfl (fun K hK => ?_) ?_
        · go_simp
          refine hK _ _ ?_
          clear hK K
          refine wpAny_ready (rs := [2]) (by kernel_rfl) (by simp) ?_
          refine AllReady.cons rfl (fun K hK => ?_) ?_
          · go_simp
            refine (hX.out p (.ok (q, x)) _ (by first | exact h.out.drew | exact (h.out.alloc G _).drew) hp hr).mono ?_
            rintro e w1 ⟨hg1, ⟨v1, rfl, a1, c1', n1, rfl, hq1⟩, hd1⟩
            have HG1 : Hid (w.grownBy w1 (some E.R)) := (by first | exact grown_undrew hg1 | exact grown_tr (grown_alloc (grown_bel (Below.refl _ w)) _) (grown_undrew hg1))
            have HK1 : Hid (KAt E N w1 its (.slice av its.length cv) n) := HK.out.kept HG1.out (by omega)
            have HQ1 : Hid (ExQ (fun b => w.heap.size ≤ b ∧ b < w1.heap.size) w1 n1 x a1) := hq1.keep (fun b hb => ⟨⟨by first | exact hb.1 | (have h1 := hb.1; simp at h1; omega), hb.2⟩, rfl⟩)
            have HD1 := hide2 hd1
            have hs1 := HG1.out.size
            (try have HZ1 : Hid (w1.heap[w.heap.size]? = some ZE) := kept_on (grown_undrew hg1) (by omega) (heap_alloc_new w ZE))
            have k0 := kat_ob HK1.out
            have k1 := kat_rb HK1.out
            have k0a : (w1.alloc ZE).cell? ⟨N + 1, 0, none⟩ = some (.slice av its.length cv) := cell_alloc k0 (by omega)
            clear hg1 hq1 hd1
            refine hK _ _ ?_
            clear hK K
            refine wpAny_ready (rs := [5]) (by kernel_rfl) (by simp) ?_
            refine AllReady.cons rfl (fun K hK => ?_) ?_
            · skip
              refine step_append_where rfl (.tmp 2) (.tmp 6) 62 rfl (N + 2) 64 i0 _ 4 56 Tryz.underlying62 hi hz0 hz1 hz2 rfl (by decide) (.slice av its.length cv) its.length (cells4 its) rfl (by first | exact HK1.out.row.alloc _ | exact HK1.out.row) ⟨_, 0, none⟩ 1 1 z4 rfl rfl (by first | exact z4_news _ | exact z4_at HZ1.out) z4_one (by decide) (by unfold maxLen; omega) (by omega) (by first | omega | (simp; omega)) ?_
              intro g cap w4 hown4 hg4 hw4
              have HA := hide2 (apd_mk (w := w) HK.out hown4 hg4 hw4 (by first | exact HK1.out.kept (grown_alloc (grown_bel (Below.refl _ w1)) _) (by omega) | exact HK1.out) (by first | exact (HQ1.out.keep (fun b hb => ⟨⟨hb.1, by simp; omega⟩, Below.heap_alloc _ _ _ hb.2⟩)) | exact HQ1.out) (by first | exact grown_alloc (grown_tr hg0.out HG1.out) _ | exact grown_tr hg0.out HG1.out) (by first | exact HD1.out.alloc G _ | exact HD1.out))
              obtain ⟨⟨m0, m1, m2, m3⟩, ⟨l0, l1, l2, l3⟩, o0, of0, r0, hne1, hne2⟩ := HA.out.facts
              clear hown4 hg4 hw4
              refine hK _ _ ?_
              clear hK K
              simp only [Act.put]
              refine wpAny_ready (rs := [6, 8]) (by kernel_rfl) (by simp) ?_
              refine AllReady.cons rfl (fun K hK => ?_) ?_
              · go_simp
                refine hK _ _ ?_
                clear hK K
                refine wpAny_ready (rs := [7, 8]) (by kernel_rfl) (by simp) ?_
                refine AllReady.cons rfl (fun K hK => ?_) ?_
                · go_simp
                  refine hK _ _ ?_
                  clear hK K
                  refine wpAny_ready (rs := [8]) (by kernel_rfl) (by simp) ?_
                  refine AllReady.cons rfl (fun K hK => ?_) ?_
                  · go_simp
                    refine hK _ _ ?_
                    clear hK K
                    refine wpAny_done (by kernel_rfl) ?_ _
                    go_wp2
                    go_end0
                    exact Apd.done (c := c1') G HA.out hN hR HOUT.out (Or.inl rfl)
                  exact AllReady.nil
                refine AllReady.cons rfl (fun K hK => ?_) ?_
                · go_simp
                  refine hK _ _ ?_
                  clear hK K
                  refine wpAny_ready (rs := [7]) (by kernel_rfl) (by simp) ?_
                  refine AllReady.cons rfl (fun K hK => ?_) ?_
                  · go_simp
                    refine hK _ _ ?_
                    clear hK K
                    refine wpAny_done (by kernel_rfl) ?_ _
                    go_wp2
                    go_end0
                    exact Apd.done (c := c1') G HA.out hN hR HOUT.out (Or.inr rfl)
                  exact AllReady.nil
                exact AllReady.nil
              refine AllReady.cons rfl (fun K hK => ?_) ?_
              · go_simp
                refine hK _ _ ?_
                clear hK K
                refine wpAny_ready (rs := [6]) (by kernel_rfl) (by simp) ?_
                refine AllReady.cons rfl (fun K hK => ?_) ?_
                · go_simp
                  refine hK _ _ ?_
                  clear hK K
                  refine wpAny_ready (rs := [7]) (by kernel_rfl) (by simp) ?_
                  refine AllReady.cons rfl (fun K hK => ?_) ?_
                  · go_simp
                    refine hK _ _ ?_
                    clear hK K
                    refine wpAny_done (by kernel_rfl) ?_ _
                    go_wp2
                    go_end0
                    exact Apd.done (c := c1') G HA.out hN hR HOUT.out (Or.inr rfl)
                  exact AllReady.nil
                exact AllReady.nil
              exact AllReady.nil
            exact AllReady.nil
          exact AllReady.nil
        exact AllReady.nil
      refine AllReady.cons rfl (fun K hK => ?_) ?_
      · go_simp
        refine hK _ _ ?_
        clear hK K
        refine wpAny_ready (rs := [0, 2]) (by kernel_rfl) (by simp) ?_
        refine AllReady.cons rfl (fun K hK => ?_) ?_
        · go_simp
          refine hK _ _ ?_
          clear hK K
          refine wpAny_take (i := 3) (v := .int .i64 its.length) rfl (by kernel_rfl) (by kernel_rfl) (by kernel_rfl) (fun _ _ _ h => h) (Or.inl ⟨by rfl, ?_⟩) ?_
          · intro w; go_simp
          simp only [Act.put]
          refine wpAny_ready (rs := [2]) (by kernel_rfl) (by simp) ?_
          refine AllReady.cons rfl (fun K hK => ?_) ?_
          · go_simp
            refine (hX.out p (.ok (q, x)) _ (by first | exact h.out.drew | exact (h.out.alloc G _).drew) hp hr).mono ?_
            rintro e w1 ⟨hg1, ⟨v1, rfl, a1, c1', n1, rfl, hq1⟩, hd1⟩
            have HG1 : Hid (w.grownBy w1 (some E.R)) := (by first | exact grown_undrew hg1 | exact grown_tr (grown_alloc (grown_bel (Below.refl _ w)) _) (grown_undrew hg1))
            have HK1 : Hid (KAt E N w1 its (.slice av its.length cv) n) := HK.out.kept HG1.out (by omega)
            have HQ1 : Hid (ExQ (fun b => w.heap.size ≤ b ∧ b < w1.heap.size) w1 n1 x a1) := hq1.keep (fun b hb => ⟨⟨by first | exact hb.1 | (have h1 := hb.1; simp at h1; omega), hb.2⟩, rfl⟩)
            have HD1 := hide2 hd1
            have hs1 := HG1.out.size
            (try have HZ1 : Hid (w1.heap[w.heap.size]? = some ZE) := kept_on (grown_undrew hg1) (by omega) (heap_alloc_new w ZE))
            have k0 := kat_ob HK1.out
            have k1 := kat_rb HK1.out
            have k0a : (w1.alloc ZE).cell? ⟨N + 1, 0, none⟩ = some (.slice av its.length cv) := cell_alloc k0 (by omega)
            clear hg1 hq1 hd1
            refine hK _ _ ?_
            clear hK K
            refine wpAny_ready (rs := [5]) (by kernel_rfl) (by simp) ?_
            refine AllReady.cons rfl (fun K hK => ?_) ?_
            · skip
              refine step_append_where rfl (.tmp 2) (.tmp 6) 62 rfl (N + 2) 64 i0 _ 4 56 Tryz.underlying62 hi hz0 hz1 hz2 rfl (by decide) (.slice av its.length cv) its.length (cells4 its) rfl (by first | exact HK1.out.row.alloc _ | exact HK1.out.row) ⟨_, 0, none⟩ 1 1 z4 rfl rfl (by first | exact z4_news _ | exact z4_at HZ1.out) z4_one (by decide) (by unfold maxLen; omega) (by omega) (by first | omega | (simp; omega)) ?_
              intro g cap w4 hown4 hg4 hw4
              have HA := hide2 (apd_mk (w := w) HK.out hown4 hg4 hw4 (by first | exact HK1.out.kept (grown_alloc (grown_bel (Below.refl _ w1)) _) (by omega) | exact HK1.out) (by first | exact (HQ1.out.keep (fun b hb => ⟨⟨hb.1, by simp; omega⟩, Below.heap_alloc _ _ _ hb.2⟩)) | exact HQ1.out) (by first | exact grown_alloc (grown_tr hg0.out HG1.out) _ | exact grown_tr hg0.out HG1.out) (by first | exact HD1.out.alloc G _ | exact HD1.out))
              obtain ⟨⟨m0, m1, m2, m3⟩, ⟨l0, l1, l2, l3⟩, o0, of0, r0, hne1, hne2⟩ := HA.out.facts
              clear hown4 hg4 hw4
              refine hK _ _ ?_
              clear hK K
              simp only [Act.put]
              refine wpAny_ready (rs := [6, 8]) (by kernel_rfl) (by simp) ?_
              refine AllReady.cons rfl (fun K hK => ?_) ?_
              · go_simp
                refine hK _ _ ?_
                clear hK K
                refine wpAny_ready (rs := [7, 8]) (by kernel_rfl) (by simp) ?_
                refine AllReady.cons rfl (fun K hK => ?_) ?_
                · go_simp
                  refine hK _ _ ?_
                  clear hK K
                  refine wpAny_ready (rs := [8]) (by kernel_rfl) (by simp) ?_
                  refine AllReady.cons rfl (fun K hK => ?_) ?_
                  · go_simp
                    refine hK _ _ ?_
                    clear hK K
                    refine wpAny_done (by kernel_rfl) ?_ _
                    go_wp2
                    go_end0
                    exact Apd.done (c := c1') G HA.out hN hR HOUT.out (Or.inl rfl)
                  exact AllReady.nil
                refine AllReady.cons rfl (fun K hK => ?_) ?_
                · go_simp
                  refine hK _ _ ?_
                  clear hK K
                  refine wpAny_ready (rs := [7]) (by kernel_rfl) (by simp) ?_
                  refine AllReady.cons rfl (fun K hK => ?_) ?_
                  · go_simp
                    refine hK _ _ ?_
                    clear hK K
                    refine wpAny_done (by kernel_rfl) ?_ _
                    go_wp2
                    go_end0
                    exact Apd.done (c := c1') G HA.out hN hR HOUT.out (Or.inr rfl)
                  exact AllReady.nil
                exact AllReady.nil
              refine AllReady.cons rfl (fun K hK => ?_) ?_
              · go_simp
                refine hK _ _ ?_
                clear hK K
                refine wpAny_ready (rs := [6]) (by kernel_rfl) (by simp) ?_
                refine AllReady.cons rfl (fun K hK => ?_) ?_
                · go_simp
                  refine hK _ _ ?_
                  clear hK K
                  refine wpAny_ready (rs := [7]) (by kernel_rfl) (by simp) ?_
                  refine AllReady.cons rfl (fun K hK => ?_) ?_
                  · go_simp
                    refine hK _ _ ?_
                    clear hK K
                    refine wpAny_done (by kernel_rfl) ?_ _
                    go_wp2
                    go_end0
                    exact Apd.done (c := c1') G HA.out hN hR HOUT.out (Or.inr rfl)
                  exact AllReady.nil
                exact AllReady.nil
              exact AllReady.nil
            exact AllReady.nil
          exact AllReady.nil
        refine AllReady.cons rfl (fun K hK => ?_) ?_
        · go_simp
          refine (hX.out p (.ok (q, x)) _ (by first | exact h.out.drew | exact (h.out.alloc G _).drew) hp hr).mono ?_
          rintro e w1 ⟨hg1, ⟨v1, rfl, a1, c1', n1, rfl, hq1⟩, hd1⟩
          have HG1 : Hid (w.grownBy w1 (some E.R)) := (by first | exact grown_undrew hg1 | exact grown_tr (grown_alloc (grown_bel (Below.refl _ w)) _) (grown_undrew hg1))
          have HK1 : Hid (KAt E N w1 its (.slice av its.length cv) n) := HK.out.kept HG1.out (by omega)
          have HQ1 : Hid (ExQ (fun b => w.heap.size ≤ b ∧ b < w1.heap.size) w1 n1 x a1) := hq1.keep (fun b hb => ⟨⟨by first | exact hb.1 | (have h1 := hb.1; simp at h1; omega), hb.2⟩, rfl⟩)
          have HD1 := hide2 hd1
          have hs1 := HG1.out.size
          (try have HZ1 : Hid (w1.heap[w.heap.size]? = some ZE) := kept_on (grown_undrew hg1) (by omega) (heap_alloc_new w ZE))
          have k0 := kat_ob HK1.out
          have k1 := kat_rb HK1.out
          have k0a : (w1.alloc ZE).cell? ⟨N + 1, 0, none⟩ = some (.slice av its.length cv) := cell_alloc k0 (by omega)
          clear hg1 hq1 hd1
          refine hK _ _ ?_
          clear hK K
          refine wpAny_ready (rs := [0]) (by kernel_rfl) (by simp) ?_
          refine AllReady.cons rfl (fun K hK => ?_) ?_
          · go_simp
            refine hK _ _ ?_
            clear hK K
            refine wpAny_take (i := 3) (v := .int .i64 its.length) rfl (by kernel_rfl) (by kernel_rfl) (by kernel_rfl) (fun _ _ _ h => h) (Or.inl ⟨by rfl, ?_⟩) ?_
            · intro w; go_simp
            simp only [Act.put]
            refine wpAny_ready (rs := [5]) (by kernel_rfl) (by simp) ?_
            refine AllReady.cons rfl (fun K hK => ?_) ?_
            · skip
              refine step_append_where rfl (.tmp 2) (.tmp 6) 62 rfl (N + 2) 64 i0 _ 4 56 Tryz.underlying62 hi hz0 hz1 hz2 rfl (by decide) (.slice av its.length cv) its.length (cells4 its) rfl (by first | exact HK1.out.row.alloc _ | exact HK1.out.row) ⟨_, 0, none⟩ 1 1 z4 rfl rfl (by first | exact z4_news _ | exact z4_at HZ1.out) z4_one (by decide) (by unfold maxLen; omega) (by omega) (by first | omega | (simp; omega)) ?_
              intro g cap w4 hown4 hg4 hw4
              have HA := hide2 (apd_mk (w := w) HK.out hown4 hg4 hw4 (by first | exact HK1.out.kept (grown_alloc (grown_bel (Below.refl _ w1)) _) (by omega) | exact HK1.out) (by first | exact (HQ1.out.keep (fun b hb => ⟨⟨hb.1, by simp; omega⟩, Below.heap_alloc _ _ _ hb.2⟩)) | exact HQ1.out) (by first | exact grown_alloc (grown_tr hg0.out HG1.out) _ | exact grown_tr hg0.out HG1.out) (by first | exact HD1.out.alloc G _ | exact HD1.out))
              obtain ⟨⟨m0, m1, m2, m3⟩, ⟨l0, l1, l2, l3⟩, o0, of0, r0, hne1, hne2⟩ := HA.out.facts
              clear hown4 hg4 hw4
              refine hK _ _ ?_
              clear hK K
              simp only [Act.put]
              refine wpAny_ready (rs := [6, 8]) (by kernel_rfl) (by simp) ?_
              refine AllReady.cons rfl (fun K hK => ?_) ?_
              · go_simp
                refine hK _ _ ?_
                clear hK K
                refine wpAny_ready (rs := [7, 8]) (by kernel_rfl) (by simp) ?_
                refine AllReady.cons rfl (fun K hK => ?_) ?_
                · go_simp
                  refine hK _ _ ?_
                  clear hK K
                  refine wpAny_ready (rs := [8]) (by kernel_rfl) (by simp) ?_
                  refine AllReady.cons rfl (fun K hK => ?_) ?_
                  · go_simp
                    refine hK _ _ ?_
                    clear hK K
                    refine wpAny_done (by kernel_rfl) ?_ _
                    go_wp2
                    go_end0
                    exact Apd.done (c := c1') G HA.out hN hR HOUT.out (Or.inl rfl)
                  exact AllReady.nil
                refine AllReady.cons rfl (fun K hK => ?_) ?_
                · go_simp
                  refine hK _ _ ?_
                  clear hK K
                  refine wpAny_ready (rs := [7]) (by kernel_rfl) (by simp) ?_
                  refine AllReady.cons rfl (fun K hK => ?_) ?_
                  · go_simp
                    refine hK _ _ ?_
                    clear hK K
                    refine wpAny_done (by kernel_rfl) ?_ _
                    go_wp2
                    go_end0
                    exact Apd.done (c := c1') G HA.out hN hR HOUT.out (Or.inr rfl)
                  exact AllReady.nil
                exact AllReady.nil
              refine AllReady.cons rfl (fun K hK => ?_) ?_
              · go_simp
                refine hK _ _ ?_
                clear hK K
                refine wpAny_ready (rs := [6]) (by kernel_rfl) (by simp) ?_
                refine AllReady.cons rfl (fun K hK => ?_) ?_
                · go_simp
                  refine hK _ _ ?_
                  clear hK K
                  refine wpAny_ready (rs := [7]) (by kernel_rfl) (by simp) ?_
                  refine AllReady.cons rfl (fun K hK => ?_) ?_
                  · go_simp
                    refine hK _ _ ?_
                    clear hK K
                    refine wpAny_done (by kernel_rfl) ?_ _
                    go_wp2
                    go_end0
                    exact Apd.done (c := c1') G HA.out hN hR HOUT.out (Or.inr rfl)
                  exact AllReady.nil
                exact AllReady.nil
              exact AllReady.nil
            exact AllReady.nil
          exact AllReady.nil
        exact AllReady.nil
      exact AllReady.nil
    exact AllReady.nil

end Go.Proofs.YtlnikpcoejpknaaGreatDoor

