/- The walk of VerifyMore. -/
import Derived.Test.YtbkimpimoclobaaM48
namespace Go.Proofs.Ytbkimpimoclobaa
open Go.RowKit

theorem news_alloc (w : World) (cs : List Value) (t : TypeId) : ∀ j u, cs[j]? = some u → (w.alloc (.cells (List.toArray cs) t)).cell? ((⟨w.heap.size, 0, none⟩ : Addr).add j) = some u := by
  intro j u h
  have hb : (w.alloc (.cells (List.toArray cs) t)).heap[w.heap.size]? = some (.cells (List.toArray cs) t (0, 0)) := heap_alloc_new _ _
  rw [add_at]
  generalize w.alloc (.cells (List.toArray cs) t) = W at hb ⊢
  simp [World.cell?, hb, h]
set_option maxRecDepth 100000 in
theorem field_md (ao bo : Option Addr) (n c n' c' : Nat) (w : World) : (Instr.field 25 (.agg #[.slice ao n c, .slice bo n' c']) 1).run Try.prog w = .ok (.slice bo n' c') w := by
  first | rfl | kernel_rfl
theorem TsIn.at5 {B : Nat} {w : World} {g k : Nat} {L : List UV} {x : UV} (h : TsIn B w g L) (hx : L[k]? = some x) : w.cell? ⟨g, k * 6 + 5, none⟩ = some (.slice x.ac x.u.code.length x.cc) := by
  obtain ⟨cur, h1, h2, h3⟩ := h.blk
  have hk := (List.getElem?_eq_some_iff.1 hx).1
  have h6 : w.cell? ⟨g, k * 6 + 5, none⟩ = (uvC x)[5]? := by
    rw [← uvs_at L k x hx 5 (by decide), ← h2, List.getElem?_take, if_pos (by omega)]
    simp [World.cell?, h1]
  exact h6
theorem TsIn.lt {B : Nat} {w : World} {g : Nat} {L : List UV} (h : TsIn B w g L) : g < w.heap.size := by
  obtain ⟨cur, h1, _⟩ := h.blk
  exact lt_of_block h1

set_option maxRecDepth 100000 in
set_option maxHeartbeats 8000000 in
theorem vmore_any (m : Vf.Md) (ab au : Option Addr) (cb cu : Nat) (unit : Int) (w : World) (hin : Hid (ModIn w.heap.size w m ab au)) :
    Calls Try.prog 4 #[.agg #[.slice ab m.boxes.length cb, .slice au m.units.length cu], .int .i64 unit] w fun e w' => e = .returned (.bool true) ∧ w.grownBy w' none := by
  obtain ⟨iu, hiu, hu0, hu1, hu2⟩ := info_parts Try.infounit
  obtain ⟨ib, hib, hb0, hb1, hb2⟩ := info_parts Try.infoboxi
  obtain ⟨ii, hii, hi0, hi1, hi2⟩ := info_parts Try.infoinstr
  have HT0 : Hid (w.grownBy (w.alloc (amO m ab au cb cu)) none) := grown0_new (World.grownBy.refl _ _) _
  have HB0 : Hid ((w.alloc (amO m ab au cb cu)).heap[w.heap.size]? = some (amO m ab au cb cu)) := heap_alloc_new _ _
  go_enter Try.func4, Try.ntmps4
  go_wp2_with fail
  refine (alive_any _).mono ?_
  rintro e w1 ⟨rfl, hg1⟩
  have HG1 : Hid (w.grownBy w1 none) := grown0_tr' HT0.out hg1
  have hb1' : w1.heap[w.heap.size]? = some (amO m ab au cb cu) := (kept0 hg1 (lt_of_block HB0.out)).trans HB0.out
  obtain ⟨c0, c1, _⟩ := am_cells hb1'
  have HB1 := hide hb1'
  have HM1 : Hid (ModIn w.heap.size w1 m ab au) := hin.out.low (low0 HG1.out (Nat.le_refl _))
  obtain ⟨ra, rb, rc, hr⟩ : ∃ a b c, (a, b, c) = Vf.verify m := ⟨_, _, _, rfl⟩
  have HR := hide hr
  have hz1w := HG1.out.size
  clear hg1 hb1' hr
  go_wp2_with fail
  refine (verify_any m ab au cb cu w.heap.size _ HM1 hz1w (ra, rb, rc) HR).mono ?_
  rintro e w2 ⟨rfl, hg2⟩
  have HG2 : Hid (w.grownBy w2 none) := grown0_tr' HG1.out hg2
  have hb2' : w2.heap[w.heap.size]? = some (amO m ab au cb cu) := (kept0 hg2 (lt_of_block HB1.out)).trans HB1.out
  obtain ⟨d0, d1, _⟩ := am_cells hb2'
  have HB2 := hide hb2'
  have hz2w := HG2.out.size
  have hwl2 := lt_of_block hb2'
  clear hg2 hb2' c0 c1
  by_cases ha : ra = 0
  · by_cases hb : rb = 0
    · by_cases hc : rc = 0
      · subst ha hb hc
        have HV : Hid (Vf.verify m = (0, 0, 0)) := HR.out.symm
        have hlk := Vf.right_iff.1 HV.out
        obtain ⟨hRt, hbx⟩ := rt_of (hlk 0 (by omega)) (hlk 1 (by omega)) (hlk 2 (by omega))
        have hmu := hRt.units
        have HRT := hide hRt
        clear hlk hRt
        by_cases hneg : unit < 0
        · go_wp2
          all_goals (go_ret; exact ⟨rfl, HG2.out⟩)
        · have h0u : 0 ≤ unit := by omega
          clear hneg
          obtain ⟨p, rfl⟩ : ∃ p : Nat, unit = p := ⟨unit.toNat, by omega⟩
          by_cases hge : (m.units.length : Int) ≤ (p : Int)
          · go_wp2
            all_goals (go_ret; exact ⟨rfl, HG2.out⟩)
          · have hlt : (p : Int) < (m.units.length : Int) := by omega
            clear hge
            by_cases hb30i : (30 : Int) ≤ (m.boxes.length : Int)
            · go_wp2
              all_goals (go_ret; exact ⟨rfl, HG2.out⟩)
            · have hb30j : (m.boxes.length : Int) < 30 := by omega
              have hb30 : m.boxes.length < 30 := by omega
              clear hb30i
              by_cases hu30i : (30 : Int) ≤ (m.units.length : Int)
              · go_wp2
                all_goals (go_ret; exact ⟨rfl, HG2.out⟩)
              · have hu30j : (m.units.length : Int) < 30 := by omega
                have hu30 : m.units.length < 30 := by omega
                clear hu30i
                have hm2 : ModIn w.heap.size w2 m ab au := hin.out.low (low0 HG2.out (Nat.le_refl _))
                have hpos : 0 < m.units.length := by omega
                obtain ⟨bU, oU, _, _, _, _, hau, hbU, _⟩ := hm2.units 0 _ (List.getElem?_eq_getElem hpos)
                have huu := hm2.units
                rw [hau] at huu
                obtain ⟨us, hus, hun, hcel⟩ := uvs_of huu
                have huslen : us.length = m.units.length := by rw [← hus]; simp
                have hpl : p < us.length := by omega
                obtain ⟨x, hx⟩ : ∃ x, us[p]? = some x := ⟨_, List.getElem?_eq_getElem hpl⟩
                have hmx : m.units[p]? = some x.u := by rw [← hus, List.getElem?_map, hx]; rfl
                have hux := hun p x hx
                have hsz := sized_true (headE_zero (HRT.out.heads p x.u hmx).1).2.1
                obtain ⟨_, _, _, bc, oc, hac, hbc, _⟩ := hux.code 0 _ (List.getElem?_eq_getElem hsz.2.2.2.2.1)
                have hc4k : x.u.code.length ≤ 4000 := hsz.2.2.2.2.2
                have hcp : w2.cell? ⟨bU, oU + p * 6 + 5, none⟩ = some (.slice (some ⟨bc, oc, none⟩) x.u.code.length x.cc) := by
                  have h5 := hcel (p * 6 + 5) _ (uvs_at us p x hx 5 (by decide))
                  rw [add_at, ← Nat.add_assoc] at h5
                  rw [h5, ← hac]
                have HUS := hide hus
                have HUN := hide hun
                have HCE := hide hcel
                have HM2 := hide hm2
                have HAU := hide hau
                have HX := hide hx
                have HPL := hide hpl
                have HMX := hide hmx
                have HUX := hide hux
                have HAC := hide hac
                have HBC := hide hbc
                clear hus hun hcel hm2 hau huu hx hmx hux hac
                rw [HAU.out] at d1
                rw [HAU.out]
                have HAB : Hid (ab = none → m.boxes.length = 0) := fun e => by
                  rcases Nat.eq_zero_or_pos m.boxes.length with h | h
                  · exact h
                  · obtain ⟨_, _, b, off, e', _⟩ := HM2.out.boxes 0 _ (List.getElem?_eq_getElem h)
                    rw [e] at e'
                    cases e'
                by_cases hc4i : (4000 : Int) < (x.u.code.length : Int) + 2
                · go_wp2
                  all_goals (go_ret; exact ⟨rfl, HG2.out⟩)
                · have hc4j : (x.u.code.length : Int) + 2 ≤ 4000 := by omega
                  have hc4 : x.u.code.length + 2 ≤ 4000 := by omega
                  clear hc4i
                  obtain ⟨W3, hW3⟩ : ∃ W3 : World, (w2.alloc (amO m ab (some ⟨bU, oU, none⟩) cb cu)).alloc (.cells #[] 37) = W3 := ⟨_, rfl⟩
                  have HT3 : Hid (w2.grownBy W3 none) := by rw [← hW3]; exact two_new _ _ _
                  have HN3 : Hid (W3.heap[w2.heap.size]? = some (amO m ab (some ⟨bU, oU, none⟩) cb cu)) := by rw [← hW3]; exact (Below.heap_alloc _ _ _ (by simp)).trans (heap_alloc_new _ _)
                  have HO3 : Hid (W3.ownsRow (w2.heap.size + 1) 37 2 (.slice (some ⟨w2.heap.size + 1, 0, none⟩) 0 0) 0 []) := by
                    have e : (w2.alloc (amO m ab (some ⟨bU, oU, none⟩) cb cu)).heap.size = w2.heap.size + 1 := by simp
                    rw [← hW3]
                    have := own_empty6 (w2.alloc (amO m ab (some ⟨bU, oU, none⟩) cb cu)) 37 (M := w2.heap.size + 1) (by simp) 2
                    rw [e] at this
                    exact this
                  have HBX3 : Hid (BoxesIn w.heap.size W3 m.boxes ab) := HM2.out.boxes.low (fun j hj => kept0 HT3.out (by omega))
                  have HW3 := hide hW3
                  have hz3 : W3.heap.size = w2.heap.size + 1 + 1 := by rw [← hW3]; simp
                  clear hW3
                  go_wp2_with (first | (at_builtin; rw [HW3.out]; refine wpList_append_src rfl _ _ 22 rfl (w2.heap.size + 1) 37 ib _ 2 16 Try.underlying22 hib hb0 hb1 hb2 rfl (by decide) _ 0 [] rfl HO3.out ab m.boxes.length cb (m.boxes.flatMap bxC) rfl HAB.out (by rw [fm_len bxC 2 (fun _ => rfl)]) (boxes_news HBX3.out) (bx_one _) (by unfold maxLen; omega) (by omega) (by omega) ?_; intro v1 w4 hown1 hgr1; have HO1 := hide hown1; have HR1 : Hid (W3.grownBy w4 (some (w2.heap.size + 1))) := hgr1; have hz4 : W3.heap.size ≤ w4.heap.size := HR1.out.size; clear hown1 hgr1) | (at_builtin; refine wpList_append_own _ rfl _ _ 22 rfl (w2.heap.size + 1) 37 ib _ 2 16 Try.underlying22 hib hb0 hb1 hb2 rfl (by decide) v1 (0 + m.boxes.length) _ rfl (own_keep HO1.out (grown0_new (World.grownBy.refl _ _) _)) ⟨w4.heap.size, 0, none⟩ 1 1 [.int .i64 2, .int .i64 1] rfl rfl (news_alloc _ [.int .i64 2, .int .i64 1] _) (by intro u hu; simp at hu; rcases hu with rfl | rfl <;> rfl) (by unfold maxLen; omega) (by omega) (by simp; omega) ?_; intro v2 w5 hown2 hgr2 _; obtain ⟨g1, cap1, W6, rfl, hW6, hV6, e1, e2⟩ := vm_boxes HT3.out hz3 HN3.out HO1.out HR1.out hown2 hgr2 HG2.out; have HV6 := hide hV6; have d6 : W6.cell? ⟨w.heap.size, 1, none⟩ = some (.slice (some ⟨bU, oU, none⟩) m.units.length cu) := (cell_eq (hV6.low _ hwl2) _).trans d1; have hz6 : w2.heap.size < W6.heap.size := lt_of_block hV6.blk; have hz6w : w.heap.size < W6.heap.size := (by omega); obtain ⟨W7, hW7⟩ : ∃ W7 : World, W6.alloc (.cells #[] 35) = W7 := ⟨_, rfl⟩; have HT7 : Hid (W6.grownBy W7 none) := (by rw [← hW7]; exact grown0_new (World.grownBy.refl _ _) _); have HO7 : Hid (W7.ownsRow W6.heap.size 35 6 (.slice (some ⟨W6.heap.size, 0, none⟩) 0 0) 0 []) := (by rw [← hW7]; exact own_empty6 W6 35 (Nat.le_refl _) 6); have hz7 : W7.heap.size = W6.heap.size + 1 := (by rw [← hW7]; simp); have HW7 := hide hW7; have HCE7 : Hid (∀ j v, (uvs us)[j]? = some v → W7.cell? ((⟨bU, oU, none⟩ : Addr).add j) = some v) := fun j v hv => (by have h1 := HCE.out j v hv; rw [add_at] at h1 ⊢; rw [← h1]; exact cell_eq ((kept0 HT7.out (by omega)).trans (HV6.out.low bU (by omega))) _); clear hown2 hgr2 hV6 hW7) | (at_builtin; rw [HW7.out]; refine wpList_append_own _ rfl _ _ 23 rfl W6.heap.size 35 iu _ 6 80 Try.underlying23 hiu hu0 hu1 hu2 rfl (by decide) _ 0 [] rfl HO7.out ⟨bU, oU, none⟩ m.units.length cu (uvs us) rfl (by rw [uvs_len, huslen]) HCE7.out (uvs_one us) (by unfold maxLen; omega) (by omega) (by omega) ?_; intro v3 w8 hown3 hgr3 _; have HO8 := hide hown3; have HR8 : Hid (W7.grownBy w8 (some W6.heap.size)) := hgr3; have hz8 : W7.heap.size ≤ w8.heap.size := HR8.out.size; clear hown3 hgr3))
                  refine (small_any _).mono ?_
                  rintro e w9 ⟨rfl, hg9, hs9⟩
                  have HG9 := hide hg9
                  have HS9 := hide hs9
                  have hz9 : w8.heap.size ≤ w9.heap.size := hg9.size
                  have u0 : w9.cell? ⟨w8.heap.size + 1 + 1, 0, none⟩ = some (.int .i64 4) := by simp [World.cell?, hs9.un]
                  have u1 : w9.cell? ⟨w8.heap.size + 1 + 1, 1, none⟩ = some (.int .i64 0) := by simp [World.cell?, hs9.un]
                  have u2 : w9.cell? ⟨w8.heap.size + 1 + 1, 2, none⟩ = some (.slice none 0 0) := by simp [World.cell?, hs9.un]
                  have u3 : w9.cell? ⟨w8.heap.size + 1 + 1, 3, none⟩ = some (.int .i64 0) := by simp [World.cell?, hs9.un]
                  have u4 : w9.cell? ⟨w8.heap.size + 1 + 1, 4, none⟩ = some (.int .i64 0) := by simp [World.cell?, hs9.un]
                  have u5 : w9.cell? ⟨w8.heap.size + 1 + 1, 5, none⟩ = some (.slice (some ⟨w8.heap.size + 1, 0, none⟩) 3 3) := by simp [World.cell?, hs9.un]
                  clear hg9 hs9 d6 e1 e2 hW6
                  have qf := field_md none (some ⟨w8.heap.size + 1 + 1, 0, none⟩) 0 0 1 1 w9
                  have hp1 : (p : Int) < (m.units.length : Int) + 1 := by omega
                  go_wp2_with (first | (at_builtin; refine wpList_append_own _ rfl _ _ 23 rfl W6.heap.size 35 iu _ 6 80 Try.underlying23 hiu hu0 hu1 hu2 rfl (by decide) v3 (0 + m.units.length) _ rfl (own_keep HO8.out (grown0_new HG9.out _)) ⟨w9.heap.size, 0, none⟩ 1 1 (uvC (smUV (w8.heap.size + 1))) rfl rfl (news_alloc _ (uvC (smUV (w8.heap.size + 1))) _) (by intro u hu; simp at hu; rcases hu with rfl | rfl | rfl | rfl | rfl | rfl <;> rfl) (by unfold maxLen; omega) (by omega) (by simp; omega) ?_; intro v4 w10 hown4 hgr4 _; obtain ⟨g2, cap2, W11, rfl, hW11, hV11, f1, f2⟩ := vm_units (c := w8.heap.size + 1) HV6.out HUN.out huslen hz2w HT7.out HO8.out HR8.out HG9.out HS9.out.cod (by omega) hown4 hgr4; have HV11 := hide hV11; obtain ⟨b0, b1, _⟩ := am_cells hV11.blk; have hp5 : W11.cell? ⟨g2, p * 6 + 5, none⟩ = some (.slice (some ⟨bc, oc, none⟩) x.u.code.length x.cc) := (by rw [← HAC.out]; exact hV11.ts.at5 (by rw [List.getElem?_append_left HPL.out]; exact HX.out)); have hA11 : w2.heap.size < W11.heap.size := lt_of_block hV11.blk; have hg2l : g2 < W11.heap.size := hV11.ts.lt; obtain ⟨W12, hW12⟩ : ∃ W12 : World, W11.alloc (.cells #[] 41) = W12 := ⟨_, rfl⟩; have HT12 : Hid (W11.grownBy W12 none) := (by rw [← hW12]; exact grown0_new (World.grownBy.refl _ _) _); have HO12 : Hid (W12.ownsRow W11.heap.size 41 3 (.slice (some ⟨W11.heap.size, 0, none⟩) 0 0) 0 []) := (by rw [← hW12]; exact own_empty6 W11 41 (Nat.le_refl _) 3); have hz12 : W12.heap.size = W11.heap.size + 1 := (by rw [← hW12]; simp); have HW12 := hide hW12; have HCD : Hid (∀ j v, (x.u.code.flatMap inC)[j]? = some v → W12.cell? ((⟨bc, oc, none⟩ : Addr).add j) = some v) := (by have h1 := (HUX.out.low (w' := W12) (fun j hj => (kept0 HT12.out (by omega)).trans (HV11.out.low j (by omega)))).code; rw [HAC.out] at h1; exact code_news h1); clear hown4 hgr4 hV11 hW12) | (at_builtin; rw [HW12.out]; refine wpList_append_own _ rfl _ _ 33 rfl W11.heap.size 41 ii _ 3 24 Try.underlying33 hii hi0 hi1 hi2 rfl (by decide) _ 0 [] rfl HO12.out ⟨bc, oc, none⟩ x.u.code.length x.cc (x.u.code.flatMap inC) rfl (by rw [fm_len inC 3 (fun _ => rfl)]) HCD.out (in_one _) (by unfold maxLen; omega) (by omega) (by omega) ?_; intro v5 w13 hown5 hgr5 _; have HO13 := hide hown5; have HR13 : Hid (W12.grownBy w13 (some W11.heap.size)) := hgr5; have hz13 : W12.heap.size ≤ w13.heap.size := HR13.out.size; clear hown5 hgr5) | (at_builtin; refine wpList_append_own _ rfl _ _ 33 rfl W11.heap.size 41 ii _ 3 24 Try.underlying33 hii hi0 hi1 hi2 rfl (by decide) v5 (0 + x.u.code.length) _ rfl (own_keep HO13.out (grown0_new (World.grownBy.refl _ _) _)) ⟨w13.heap.size, 0, none⟩ 2 2 [.int .i64 7, .int .i64 0, .int .i64 0, .int .i64 5, .int .i64 0, .int .i64 0] rfl rfl (news_alloc _ [.int .i64 7, .int .i64 0, .int .i64 0, .int .i64 5, .int .i64 0, .int .i64 0] _) (fun u hu => in_one [⟨7, 0, 0⟩, ⟨5, 0, 0⟩] u hu) (by unfold maxLen; omega) (by omega) (by simp; omega) ?_; intro v6 w14 hown6 hgr6 _; obtain ⟨g3, cap3, W15, rfl, hW15, hV15, k1, k2⟩ := vm_code HV11.out HM2.out HUS.out HX.out HUX.out hz2w hb30 hu30 hc4 HT12.out HO13.out HR13.out hown6 hgr6; have HV15 := hide hV15; obtain ⟨j0, j1, _⟩ := am_cells hV15.blk; have hA15 : w2.heap.size < W15.heap.size := lt_of_block hV15.blk; clear hown6 hgr6 hV15))
                  have hv := verify_any (Vf.moreM m p x.u) (some ⟨g1, 0, none⟩) (some ⟨g2, 0, none⟩) cap1 cap2 W15.heap.size W15 (hide HV15.out.md) (Nat.le_refl _) (0, 0, 0) (hide (Vf.more_right (Vf.moreM_more HMX.out hb30 hu30 hc4) HV.out).symm)
                  have hl1 : (Vf.moreM m p x.u).boxes.length = m.boxes.length + 1 := by simp [Vf.moreM]
                  have hl2 : (Vf.moreM m p x.u).units.length = m.units.length + 1 := by simp [Vf.moreM]
                  unfold mdV at hv
                  rw [hl1, hl2] at hv
                  refine hv.mono ?_
                  rintro e w16 ⟨rfl, hg16⟩
                  have HG16 : Hid (w.grownBy w16 none) := grown0_tr' HV15.out.grown hg16
                  have q16 := eq_where 0 0 0 0 0 0 w16
                  clear hg16 hv
                  go_wp2
                  go_ret
                  exact ⟨rfl, HG16.out⟩
      · have q1 : (ra == 0) = true := by simpa using ha
        have q2 : (rb == 0) = true := by simpa using hb
        have q3 : (rc == 0) = false := by simpa using hc
        have q := eq_where ra rb rc 0 0 0 w2
        rw [q1, q2, q3] at q
        clear ha hb hc
        go_wp2
        all_goals (go_ret; exact ⟨rfl, HG2.out⟩)
    · have q1 : (ra == 0) = true := by simpa using ha
      have q2 : (rb == 0) = false := by simpa using hb
      have q := eq_where ra rb rc 0 0 0 w2
      rw [q1, q2] at q
      clear ha hb
      go_wp2
      all_goals (go_ret; exact ⟨rfl, HG2.out⟩)
  · have q1 : (ra == 0) = false := by simpa using ha
    have q := eq_where ra rb rc 0 0 0 w2
    rw [q1] at q
    clear ha
    go_wp2
    all_goals (go_ret; exact ⟨rfl, HG2.out⟩)

end Go.Proofs.Ytbkimpimoclobaa

