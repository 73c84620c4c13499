/- WHAT the document's Parse answers; the walk of ImageTells. -/
import Derived.Test.YtnfkfgpnojdfoaaIm28
import Derived.Test.YtnfkfgpnojdfoaaIm25
import Derived.Test.YtnfkfgpnojdfoaaIm22
namespace Go.Proofs.Ytnfkfgpnojdfoaa
open Go.RowKit


set_option maxRecDepth 100000 in
set_option maxHeartbeats 400000 in
theorem rparse_much (LL : Nat) (a : Option Addr) (c : Nat) (w : World) (e1 : (60000 : Int) < (LL : Int)) :
    Calls Try.prog 12 #[.slice a LL c] w fun e w' => e = .returned (.tuple #[noM, .int .i64 4]) ∧ Below w.heap.size w w' := by
  go_enter Try.func12, Try.ntmps12
  go_wp2
  refine bodyPost_ret (v := .tuple #[noM, .int .i64 4]) (by simp [results, Try.results12, go_sem]) rfl ?_
  exact ⟨rfl, ((Below.refl _ w).alloc (Nat.le_refl _) _)⟩

set_option maxRecDepth 100000 in
set_option maxHeartbeats 400000 in
theorem rparse_short (LL : Nat) (a : Option Addr) (c : Nat) (w : World) (e2 : (LL : Int) < 2) :
    Calls Try.prog 12 #[.slice a LL c] w fun e w' => e = .returned (.tuple #[noM, .int .i64 2]) ∧ Below w.heap.size w w' := by
  have e1 : ¬ (60000 : Int) < (LL : Int) := by omega
  have eK : IntKind.i64.wrap ((LL : Int) - 2) = (LL : Int) - 2 := by rw [IntKind.wrap_i64]; omega
  have e3 : (LL : Int) - 2 < 0 := by omega
  go_enter Try.func12, Try.ntmps12
  go_wp2
  refine bodyPost_ret (v := .tuple #[noM, .int .i64 2]) (by simp [results, Try.results12, go_sem]) rfl ?_
  exact ⟨rfl, ((Below.refl _ w).alloc (Nat.le_refl _) _)⟩

set_option maxRecDepth 100000 in
set_option maxHeartbeats 1000000 in
theorem rparse_fit (p : List Nat) (x y : Nat) (a : Option Addr) (c : Nat) (w : World) (hin : Hid (BIn w (p ++ [x, y]) a)) (LL : Nat) (hLL : Hid (LL = p.length + 2)) (hl : (LL : Int) ≤ 60000) (hc : LL ≤ c) (s : Nat) (hs : Hid (s = Im.sum p)) (hne : Hid (s ≠ x * 256 + y)) :
    Calls Try.prog 12 #[.slice a LL c] w fun e w' => e = .returned (.tuple #[noM, .int .i64 8]) ∧ Below w.heap.size w w' := by
  obtain ⟨hx, b, off, rfl, cx⟩ := hin.out p.length x (by simp)
  obtain ⟨hy, b', off', e, cy⟩ := hin.out (p.length + 1) y (by simp)
  simp at e
  obtain ⟨rfl, rfl⟩ := e
  have hbl : b < w.heap.size := by
    obtain ⟨b1, o1, e, h⟩ := hin.out.lt (by simp)
    simp at e
    rw [e.1]; exact h
  have HIN : Hid (BIn (w.alloc Zm) p (some ⟨b, off, none⟩)) := (hin.out.alloc _).pre
  have e1 : ¬ (60000 : Int) < (LL : Int) := by omega
  have eK : IntKind.i64.wrap ((LL : Int) - 2) = (p.length : Int) := by have := hLL.out; rw [IntKind.wrap_i64]; omega
  have n1 : (p.length : Int) < (LL : Int) := by have := hLL.out; omega
  have n2 : (p.length : Int) + 1 < (LL : Int) := by have := hLL.out; omega
  have hs16 : s < 65536 := by rw [hs.out]; exact Im.sum_lt p
  have e2 : ¬ (p.length : Int) < 0 := by omega
  have hp9 : p.length ≤ 9223372036854775807 := by have := hLL.out; omega
  have hcp : p.length ≤ c := by have := hLL.out; omega
  obtain ⟨x', hx'⟩ : ∃ x', x' = s / 256 := ⟨_, rfl⟩
  obtain ⟨y', hy'⟩ : ∃ y', y' = s % 256 := ⟨_, rfl⟩
  have d1 : IntKind.u8.wrap ((s : Int) / 256) = (x' : Int) := by rw [wrap_u8, hx']; omega
  have d2 : IntKind.u8.wrap ((s : Int) % 256) = (y' : Int) := by rw [wrap_u8, hy']; omega
  by_cases hxx : x' = x
  · have d3 : ((x' : Int) != (x : Int)) = false := by simp; omega
    have d4 : ((y' : Int) != (y : Int)) = true := by have := hne.out; simp; omega
    clear hin hl hc hxx hx' hy' hne
    go_enter Try.func12, Try.ntmps12
    go_wp2_with fail
    refine (rsum_any p (some ⟨b, off, none⟩) c hp9 _ HIN s hs).mono ?_
    rintro e w1 ⟨rfl, rfl⟩
    go_wp2
    refine bodyPost_ret (v := .tuple #[noM, .int .i64 8]) (by simp [results, Try.results12, go_sem]) rfl ?_
    exact ⟨rfl, ((Below.refl _ w).alloc (Nat.le_refl _) _)⟩
  · have d3 : ((x' : Int) != (x : Int)) = true := by simp; omega
    clear hin hl hc hxx hx' hy' hne
    go_enter Try.func12, Try.ntmps12
    go_wp2_with fail
    refine (rsum_any p (some ⟨b, off, none⟩) c hp9 _ HIN s hs).mono ?_
    rintro e w1 ⟨rfl, rfl⟩
    go_wp2
    refine bodyPost_ret (v := .tuple #[noM, .int .i64 8]) (by simp [results, Try.results12, go_sem]) rfl ?_
    exact ⟨rfl, ((Below.refl _ w).alloc (Nat.le_refl _) _)⟩

/-- WHAT THE DOCUMENT's Parse ANSWERS. -/
theorem rparse_any (l : List Nat) (a : Option Addr) (c : Nat) (w : World) (hin : Hid (BIn w l a)) (hc : l.length ≤ c) (r : Option Im.Md) (er : Int) (hr : Hid (Im.parse l = (r, er))) :
    Calls Try.prog 12 #[.slice a l.length c] w fun e w' => ∃ ab cb au cu, e = .returned (.tuple #[mdV (r.getD ⟨[], []⟩) ab au cb cu, .int .i64 er]) ∧ MdT w.heap.size w' (r.getD ⟨[], []⟩) ab au cb cu ∧ Below w.heap.size w w' := by
  have hp := hr.out
  by_cases h1 : 60000 < l.length
  · unfold Im.parse at hp
    rw [if_pos h1] at hp
    obtain ⟨rfl, rfl⟩ := Prod.mk.inj hp
    refine (rparse_much l.length a c w (by omega)).mono ?_
    rintro e w' ⟨rfl, hb⟩
    exact ⟨none, 0, none, 0, rfl, MdT.empty _ _, hb⟩
  by_cases h2 : l.length < 2
  · unfold Im.parse at hp
    rw [if_neg h1, if_pos h2] at hp
    obtain ⟨rfl, rfl⟩ := Prod.mk.inj hp
    refine (rparse_short l.length a c w (by omega)).mono ?_
    rintro e w' ⟨rfl, hb⟩
    exact ⟨none, 0, none, 0, rfl, MdT.empty _ _, hb⟩
  obtain ⟨p, x, y, hlp⟩ := Im.last2 (l := l) (by omega)
  have e0 : l.length = p.length + 2 := by rw [hlp]; simp
  rw [hlp, Im.parse_fit p x y (by omega)] at hp
  have hin' : Hid (BIn w (p ++ [x, y]) a) := by rw [← hlp]; exact hin
  by_cases h3 : Im.sum p ≠ x * 256 + y
  · rw [if_pos h3] at hp
    obtain ⟨rfl, rfl⟩ := Prod.mk.inj hp
    refine (rparse_fit p x y a c w hin' l.length (hide e0) (by omega) hc _ (hide rfl) (hide h3)).mono ?_
    rintro e w' ⟨rfl, hb⟩
    exact ⟨none, 0, none, 0, rfl, MdT.empty _ _, hb⟩
  · rw [if_neg h3] at hp
    refine rparse_go p x y a c w hin' l.length (hide e0) (by omega) hc _ (hide rfl) (hide (by omega)) r (hide ?_) er (hide ?_)
    · cases hm : Im.rmod p with
      | none => rw [hm] at hp; exact (Prod.mk.inj hp).1.symm
      | some m => rw [hm] at hp; exact (Prod.mk.inj hp).1.symm
    · cases hm : Im.rmod p with
      | none => rw [hm] at hp; rw [← (Prod.mk.inj hp).1, ← (Prod.mk.inj hp).2]; rfl
      | some m => rw [hm] at hp; rw [← (Prod.mk.inj hp).1, ← (Prod.mk.inj hp).2]; rfl

set_option maxRecDepth 100000 in
set_option maxHeartbeats 4000000 in
theorem tells_any (m : Im.Md) (ab au : Option Addr) (cb cu : Nat) (bl : List Nat) (a : Option Addr) (c : Nat) (w : World) (hin : Hid (ModIn w.heap.size w m ab au)) (hbd : (Im.body m).length ≤ 1000000000) (hfl : Hid (∀ u ∈ m.units, u.locals.length ≤ 1000000000)) (hbl : Hid (BIn w bl a)) (hbc : bl.length ≤ c) (hbn : bl.length ≤ 9223372036854775807) :
    Calls Try.prog 3 #[.agg #[.slice ab m.boxes.length cb, .slice au m.units.length cu], .slice a bl.length c] w fun e w' => e = .returned (.bool true) ∧ Below w.heap.size w w' := by
  obtain ⟨r2, er2, hp2⟩ : ∃ r er, Im.parse bl = (r, er) := ⟨_, _, rfl⟩
  have HP2 := hide hp2
  obtain ⟨out, er, hout⟩ : ∃ out er, Im.bytes m = (out, er) := ⟨_, _, rfl⟩
  have HO := hide hout
  have hok : ∀ c ∈ out, c < 256 := by
    have := hout
    unfold Im.bytes at this
    split at this
    · rw [← (Prod.mk.inj this).1]; exact Im.sealed_lt (Im.body_lt m)
    · rw [← (Prod.mk.inj this).1]; intro c hc; simp at hc
  have hol : out.length ≤ 9223372036854775807 := by
    have := hout
    unfold Im.bytes at this
    split at this
    · rw [← (Prod.mk.inj this).1]; simp [Im.sealed]; omega
    · rw [← (Prod.mk.inj this).1]; simp
  have HOK := hide hok
  have HMR2 : Hid (Im.MdR (r2.getD ⟨[], []⟩)) := by
    cases hz : r2 with
    | none => exact ⟨fun x hx => by simp at hx, fun x hx => by simp at hx, by decide, by decide⟩
    | some m2 =>
      have hz0 : er2 = 0 := by
        have := hp2
        unfold Im.parse at this
        split at this
        · rw [hz] at this; simp at this
        split at this
        · rw [hz] at this; simp at this
        split at this
        · rw [hz] at this; simp at this
        split at this
        · rw [hz] at this; simp at this
        · exact (Prod.mk.inj this).2.symm
      obtain ⟨m3, e3, _, h3⟩ := Im.sealed_parse hbl.out.ok (by rw [hp2, hz0])
      rw [hz] at e3
      simp at e3
      subst e3
      exact h3
  clear hp2 hout hok
  have e1 : (er != er) = false := by simp
  have e2 : (er2 == er2) = true := by simp
  obtain ⟨s, hs⟩ : ∃ s, s = Im.sum bl := ⟨_, rfl⟩
  have HS := hide hs
  have e3 : ((s : Int) != (s : Int)) = false := by simp
  obtain ⟨m2, hm2⟩ : ∃ m2, m2 = r2.getD ⟨[], []⟩ := ⟨_, rfl⟩
  rw [← hm2] at HMR2
  have HM2 := hide hm2
  clear hs hm2
  obtain ⟨W0, hW0⟩ : ∃ W0, W0 = w.alloc (mdO m ab au cb cu) := ⟨_, rfl⟩
  have HB0 : Hid (Below w.heap.size w W0) := by rw [hW0]; exact (Below.refl _ w).alloc (Nat.le_refl _) _
  have HMD : Hid (W0.heap[w.heap.size]? = some (mdO m ab au cb cu)) := by rw [hW0]; exact heap_alloc_new w _
  have HI0 := hide (hin.out.on (Nat.le_refl _) HB0.out)
  have HW0 := hide hW0
  clear hW0
  go_enter Try.func3, Try.ntmps3
  go_wp2_with fail
  rw [← HW0.out]
  refine (bytes_any m ab au cb cu _ HI0 out er HO).mono ?_
  rintro e w1 ⟨v1, rfl, hown1, hb1⟩
  have HB1 : Hid (Below w.heap.size w w1) := HB0.out.trans (hb1.mono HB0.out.size)
  have HN1 : Hid (w1.heap[w.heap.size]? = some (mdO m ab au cb cu)) := (hb1.block _ (lt_of_block HMD.out)).trans HMD.out
  have HO1 := hide hown1
  have HI1 := hide (hin.out.on (Nat.le_refl _) HB1.out)
  obtain ⟨c0, c1⟩ := md_cells HN1.out
  clear hown1 hb1 HI0 HB0 HMD
  go_wp2_with fail
  refine (rbytes_any m ab au cb cu _ HI1 hbd hfl out er HO).mono ?_
  clear c0 c1
  rintro e w2 ⟨v2, rfl, hown2, hb2⟩
  have HB2 : Hid (Below w.heap.size w w2) := HB1.out.trans (hb2.mono HB1.out.size)
  obtain ⟨a1, k1, hv1, hbin1⟩ := own_bin (own_keep HO1.out (fun j hj => hb2.block j (HO1.out.lt j hj).2)) HOK.out
  obtain ⟨a2, k2, hv2, hbin2⟩ := own_bin hown2 HOK.out
  subst hv1 hv2
  have HBI1 := hide hbin1
  have HBI2 := hide hbin2
  clear hown2 hb2 hbin1 hbin2 HO1 HI1 HB1 HN1
  go_wp2_with fail
  refine (sameBytes_any out a1 a2 k1 k2 _ HBI1 HBI2 hol).mono ?_
  rintro e w3 ⟨rfl, d, rfl⟩
  have HB3 : Hid (Below w.heap.size w (w2.drewN d)) := below_drewN' HB2.out _
  generalize hw3 : w2.drewN d = w3 at *
  clear hw3
  go_wp2_with fail
  refine (sum_any bl a c hbn _ (hide (hbl.out.on HB3.out)) s HS).mono ?_
  rintro e w4 ⟨rfl, rfl⟩
  go_wp2_with fail
  refine (rsum_any bl a c hbn _ (hide (hbl.out.on HB3.out)) s HS).mono ?_
  rintro e w5 ⟨rfl, rfl⟩
  go_wp2_with fail
  refine (parse_any bl a c _ (hide (hbl.out.on HB3.out)) hbc r2 er2 HP2).mono ?_
  rintro e w6 ⟨ab1, cb1, au1, cu1, rfl, hT1, hb6⟩
  rw [← HM2.out] at hT1 ⊢
  have HB6 : Hid (Below w.heap.size w w6) := HB3.out.trans (hb6.mono HB3.out.size)
  have hs6 := HB6.out.size
  have HT1 := hide (hT1.modIn HMR2.out)
  obtain ⟨W6, hW6⟩ : ∃ W6, W6 = w6.alloc (mdO m2 ab1 au1 cb1 cu1) := ⟨_, rfl⟩
  have HBW : Hid (Below w.heap.size w W6) := by rw [hW6]; exact HB6.out.alloc hs6 _
  have HB66 : Hid (Below w6.heap.size w6 W6) := by rw [hW6]; exact (Below.refl _ _).alloc (Nat.le_refl _) _
  have HMW : Hid (W6.heap[w6.heap.size]? = some (mdO m2 ab1 au1 cb1 cu1)) := by rw [hW6]; exact heap_alloc_new _ _
  have HW6 := hide hW6
  clear hT1 hb6 hW6
  go_wp2_with fail
  rw [← HW6.out]
  refine (rparse_any bl a c _ (hide (hbl.out.on HBW.out)) hbc r2 er2 HP2).mono ?_
  rintro e w7 ⟨ab2, cb2, au2, cu2, rfl, hT2, hb7⟩
  rw [← HM2.out] at hT2 ⊢
  have HB7 : Hid (Below w.heap.size w w7) := HBW.out.trans (hb7.mono HBW.out.size)
  have hs7 := HB7.out.size
  have hM7 : w7.heap[w6.heap.size]? = some (mdO m2 ab1 au1 cb1 cu1) := (hb7.block _ (lt_of_block HMW.out)).trans HMW.out
  have hlt7 := lt_of_block hM7
  have HB67 : Hid (Below w6.heap.size w6 w7) := HB66.out.trans (hb7.mono HB66.out.size)
  have HB78 : Hid (Below w7.heap.size w7 (w7.alloc (mdO m2 ab2 au2 cb2 cu2))) := (Below.refl _ _).alloc (Nat.le_refl _) _
  have HJ1 := hide ((HT1.out.on (Nat.le_refl _) HB67.out).on (Nat.le_refl _) HB78.out)
  have HJ2 := hide ((hT2.modIn HMR2.out).on (Nat.le_refl _) HB78.out)
  have HB8 : Hid (Below w.heap.size w (w7.alloc (mdO m2 ab2 au2 cb2 cu2))) := HB7.out.alloc hs7 _
  obtain ⟨c0, c1⟩ := md_cells hM7
  clear hT2 hb7 hM7 HMW HB66 HBW HW6 HT1 HB67 HB78
  go_wp2_with fail
  refine (same_any m2 ab1 au1 ab2 au2 cb1 cu1 cb2 cu2 _ HJ1 HJ2).mono ?_
  rintro e w9 ⟨rfl, hb9⟩
  have HB9 : Hid (Below w.heap.size w w9) := HB8.out.trans (hb9.mono HB8.out.size)
  clear hb9
  go_wp2
  go_ret
  exact ⟨rfl, HB9.out⟩

end Go.Proofs.Ytnfkfgpnojdfoaa
