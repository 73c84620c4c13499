/- The document's Text: the kinds with a sign between. -/
import Derived.Test.YtbbklahhnepiaaaDoorTx2
import Derived.Test.YtbbklahhnepiaaaDoorSg
import Derived.Deep.RegionHeld3
namespace Go.Proofs.YtbbklahhnepiaaaDoor
open Go.RowKit

theorem sg_at (n : Int) (h1 : 1 ≤ n) (h5 : n ≤ 5) (j : Nat) (p : Int × ByteArray × Int) (hp : Sy.table[j]? = some p) : sgK n p.2.1 = if p.2.2 = n then p.1 else 0 := by
  have hj : j < 13 := by have := (List.getElem?_eq_some_iff.1 hp).1; simpa [Sy.table] using this
  rcases (show j = 0 ∨ j = 1 ∨ j = 2 ∨ j = 3 ∨ j = 4 ∨ j = 5 ∨ j = 6 ∨ j = 7 ∨ j = 8 ∨ j = 9 ∨ j = 10 ∨ j = 11 ∨ j = 12 by omega) with rfl | rfl | rfl | rfl | rfl | rfl | rfl | rfl | rfl | rfl | rfl | rfl | rfl <;>
    (simp only [Sy.table, List.getElem?_cons_zero, List.getElem?_cons_succ, Option.some.injEq] at hp; subst hp; rcases (show n = 1 ∨ n = 2 ∨ n = 3 ∨ n = 4 ∨ n = 5 by omega) with rfl | rfl | rfl | rfl | rfl <;> decide)

/-- Each kind stands in the table once. -/
theorem table_inj {i j : Nat} {p q : Int × ByteArray × Int} (hp : Sy.table[i]? = some p) (hq : Sy.table[j]? = some q) (h : p.1 = q.1) : i = j := by
  have hi : i < 13 := by have := (List.getElem?_eq_some_iff.1 hp).1; simpa [Sy.table] using this
  have hj : j < 13 := by have := (List.getElem?_eq_some_iff.1 hq).1; simpa [Sy.table] using this
  have key : ∀ i, i < 13 → ∀ j, j < 13 → (Sy.table[i]?.map (·.1)) = (Sy.table[j]?.map (·.1)) → i = j := by decide
  exact key i hi j hj (by rw [hp, hq]; simp [h])

theorem table_pos {j : Nat} {p : Int × ByteArray × Int} (hp : Sy.table[j]? = some p) : p.1 ≠ 0 := by
  have hj : j < 13 := by have := (List.getElem?_eq_some_iff.1 hp).1; simpa [Sy.table] using this
  have key : ∀ j, j < 13 → (Sy.table[j]?.map (·.1)) ≠ some 0 := by decide
  intro h
  exact key j hj (by rw [hp]; simp [h])

/-- Whether a sign is met: at its level, at its place, and nowhere else. -/
theorem sg_met {n L k : Int} {j J : Nat} {p : Int × ByteArray × Int} {sg : ByteArray} (h1 : 1 ≤ n) (h5 : n ≤ 5) (hp : Sy.table[j]? = some p) (hJ : Sy.table[J]? = some (k, sg, L)) : (sgK n p.2.1 = k) ↔ (n = L ∧ j = J) := by
  rw [sg_at n h1 h5 j p hp]
  constructor
  · intro h
    split at h
    · rename_i hl
      have := table_inj hp hJ h
      subst this
      rw [hp] at hJ
      simp only [Option.some.injEq] at hJ
      rw [hJ] at hl
      exact ⟨hl.symm, rfl⟩
    · exact absurd h.symm (table_pos hJ)
  · rintro ⟨rfl, rfl⟩
    rw [hp] at hJ
    simp only [Option.some.injEq] at hJ
    rw [hJ, if_pos rfl]

abbrev arrO : Obj := .cells #[.string ⟨#[111, 114]⟩, .string ⟨#[97, 110, 100]⟩, .string ⟨#[61, 61]⟩, .string ⟨#[33, 61]⟩, .string ⟨#[60]⟩, .string ⟨#[60, 61]⟩, .string ⟨#[62]⟩, .string ⟨#[62, 61]⟩, .string ⟨#[43]⟩, .string ⟨#[45]⟩, .string ⟨#[42]⟩, .string ⟨#[47]⟩, .string ⟨#[37]⟩] 9 (0, 0)

theorem arr_cell (w : World) (j : Nat) (p : Int × ByteArray × Int) (hp : Sy.table[j]? = some p) : (w.alloc arrO).cell? ⟨w.heap.size, j, none⟩ = some (.string p.2.1) := by
  rw [World.cell?_alloc_mark]
  have hj : j < 13 := by have := (List.getElem?_eq_some_iff.1 hp).1; simpa [Sy.table] using this
  rcases (show j = 0 ∨ j = 1 ∨ j = 2 ∨ j = 3 ∨ j = 4 ∨ j = 5 ∨ j = 6 ∨ j = 7 ∨ j = 8 ∨ j = 9 ∨ j = 10 ∨ j = 11 ∨ j = 12 by omega) with rfl | rfl | rfl | rfl | rfl | rfl | rfl | rfl | rfl | rfl | rfl | rfl | rfl <;>
    (simp only [Sy.table, List.getElem?_cons_zero, List.getElem?_cons_succ, Option.some.injEq] at hp; subst hp; rfl)

/-- Where the two loops are: behind the sign, or ahead of it. -/
def Met (L : Int) (J : Nat) (R : ByteArray) (n : Int) (j : Nat) (s : ByteArray) (o : Int) : Prop := if L < n ∨ L = n ∧ J < j then s = R ∧ o = L else s = ⟨#[]⟩ ∧ o = 7

theorem Met.size {L : Int} {J : Nat} {R : ByteArray} {n : Int} {j : Nat} {s : ByteArray} {o : Int} (h : Met L J R n j s o) (hR : R.size ≤ 2000000) : s.size ≤ 2000000 := by
  unfold Met at h
  split at h
  · rw [h.1]; exact hR
  · rw [h.1]; exact Nat.zero_le _

theorem Met.own {L : Int} {J : Nat} {R : ByteArray} {n : Int} {j : Nat} {s : ByteArray} {o : Int} (h : Met L J R n j s o) (h1 : 1 ≤ L) (h5 : L ≤ 5) : 1 ≤ o ∧ o ≤ 7 := by
  unfold Met at h
  split at h <;> omega

theorem Met.step {L : Int} {J : Nat} {R : ByteArray} {n : Int} {j : Nat} {s : ByteArray} {o : Int} (h : Met L J R n j s o) (hne : ¬ (n = L ∧ j = J)) : Met L J R n (j + 1) s o := by
  unfold Met at *
  by_cases hc : L < n ∨ L = n ∧ J < j
  · rw [if_pos hc] at h; rw [if_pos (by omega)]; exact h
  · rw [if_neg hc] at h; rw [if_neg (by omega)]; exact h

theorem Met.hit {L : Int} {J : Nat} {R : ByteArray} {n : Int} {j : Nat} (hn : n = L) (hj : j = J) : Met L J R n (j + 1) R L := by
  unfold Met
  rw [if_pos (by omega)]
  exact ⟨rfl, rfl⟩

theorem Met.turn {L : Int} {J : Nat} {R : ByteArray} {n : Int} {s : ByteArray} {o : Int} (hJ : J < 13) (h : Met L J R n 13 s o) : Met L J R (n + 1) 0 s o := by
  unfold Met at *
  by_cases hc : L < n ∨ L = n ∧ J < 13
  · rw [if_pos hc] at h; rw [if_pos (by omega)]; exact h
  · rw [if_neg hc] at h; rw [if_neg (by omega)]; exact h

set_option maxRecDepth 100000 in
set_option maxHeartbeats 4000000 in
theorem text_pair (x k0 k1 : Sy.Ex) (b off : Nat) (c : Nat) (a0 : Option Addr) (c0 : Nat) (a1 : Option Addr) (c1 : Nat) (need L lf : Int) (J : Nat) (sg t0 t1 R r : ByteArray) (w : World) (hl : x.kids.length = 2) (hb : b < w.heap.size)
    (hJ : Hid (Sy.table[J]? = some (x.kind, sg, L))) (hL1 : 1 ≤ L) (hL5 : L ≤ 5) (hlf : Hid (lf = if L = 3 then 4 else L)) (HK : Hid (6 ≤ x.kind ∧ x.kind ≤ 18))
    (HQ : Hid (w.cell? ⟨b, off, none⟩ = some (.int .i64 k0.kind) ∧ w.cell? ⟨b, off + 1, none⟩ = some (.int .i64 k0.n) ∧ w.cell? ⟨b, off + 2, none⟩ = some (.string k0.name) ∧ w.cell? ⟨b, off + 3, none⟩ = some (.slice a0 k0.kids.length c0)))
    (HQ1 : Hid (w.cell? ⟨b, off + 4, none⟩ = some (.int .i64 k1.kind) ∧ w.cell? ⟨b, off + 4 + 1, none⟩ = some (.int .i64 k1.n) ∧ w.cell? ⟨b, off + 4 + 2, none⟩ = some (.string k1.name) ∧ w.cell? ⟨b, off + 4 + 3, none⟩ = some (.slice a1 k1.kids.length c1)))
    (hT0 : Hid (∀ u : World, Below w.heap.size w u → Calls Tryd.prog 25 #[exV k0 a0 c0, .int .i64 lf] u fun e w' => e = .returned (.string t0) ∧ Below u.heap.size u w'))
    (hT1 : Hid (∀ u : World, Below w.heap.size w u → Calls Tryd.prog 25 #[exV k1 a1 c1, .int .i64 (L + 1)] u fun e w' => e = .returned (.string t1) ∧ Below u.heap.size u w'))
    (hz0 : t0.size ≤ 900000) (hz1 : t1.size ≤ 900000) (hsg : sg.size ≤ 3) (HRR : Hid (R = t0 ++ sg ++ ⟨#[32]⟩ ++ t1)) (hRz : R.size ≤ 2000000) (HR : Hid (r = if L < need then ⟨#[40, 32]⟩ ++ R ++ ⟨#[41, 32]⟩ else R)) :
    Calls Tryd.prog 25 #[exV x (some ⟨b, off, none⟩) c, .int .i64 need] w fun e w' => e = .returned (.string r) ∧ Below w.heap.size w w' := by
  have e0 : (x.kind == 1) = false := by have := HK.out; simp; omega
  have e1 : (x.kind == 2) = false := by have := HK.out; simp; omega
  have e2 : (x.kind == 3) = false := by have := HK.out; simp; omega
  have e3 : (x.kind == 4) = false := by have := HK.out; simp; omega
  have e4 : (x.kind == 5) = false := by have := HK.out; simp; omega
  have e5 : (x.kind == 19) = false := by have := HK.out; simp; omega
  have e6 : (x.kind == 20) = false := by have := HK.out; simp; omega
  have e7 : (x.kind == 21) = false := by have := HK.out; simp; omega
  have e8 : (x.kind == 22) = false := by have := HK.out; simp; omega
  have e9 : (x.kind == 23) = false := by have := HK.out; simp; omega
  have e10 : (x.kind == 24) = false := by have := HK.out; simp; omega
  obtain ⟨W, hW⟩ : ∃ W, W = w.alloc (.cells #[.int .i64 x.kind, .int .i64 x.n, .string x.name, .slice (some ⟨b, off, none⟩) 2 c] 70) := ⟨_, rfl⟩
  have HWb : Hid (Below w.heap.size w W) := by rw [hW]; exact bel_one w _
  have hWz : w.heap.size < W.heap.size := by rw [hW]; simp
  have HG0 : Hid (W.cell? ⟨w.heap.size, 0, none⟩ = some (.int .i64 x.kind)) := by rw [hW]; unfold Hid; rw [World.cell?_alloc_mark]; rfl
  have HG3 : Hid (W.cell? ⟨w.heap.size, 3, none⟩ = some (.slice (some ⟨b, off, none⟩) 2 c)) := by rw [hW]; unfold Hid; rw [World.cell?_alloc_mark]; rfl
  have HWe : Hid (w.alloc (.cells #[.int .i64 x.kind, .int .i64 x.n, .string x.name, .slice (some ⟨b, off, none⟩) 2 c] 70) = W) := hW.symm
  have hJ13 : J < 13 := by have := (List.getElem?_eq_some_iff.1 hJ.out).1; simpa [Sy.table] using this
  clear hW
  go_enter Tryd.func25, Tryd.ntmps25
  go_wp2
  rw [HWe.out]
  go_loopw [5, 6, 7] (fun sv ov nv wr => ∃ (s : ByteArray) (o n : Int), sv = .string s ∧ ov = .int .i64 o ∧ nv = .int .i64 n ∧ 1 ≤ n ∧ n ≤ 6 ∧ Hid (Met L J R n 0 s o) ∧ Hid (Below W.heap.size W wr)) (fun _ _ nv _ => (6 - intOf nv).toNat)
  case atStart => exact ⟨_, _, _, rfl, rfl, rfl, by decide, by decide, by unfold Hid Met; rw [if_neg (by omega)]; exact ⟨rfl, rfl⟩, Below.refl _ _⟩
  case round =>
    obtain ⟨s, o, n, rfl, rfl, rfl, hn_1, hn_6, HM, HB⟩ := hrel
    have hsz := HM.out.size hRz
    obtain ⟨ho1, ho7⟩ := HM.out.own hL1 hL5
    by_cases h5 : n ≤ 5
    · obtain ⟨V, hV⟩ : ∃ V, V = wr.alloc arrO := ⟨_, rfl⟩
      have HVb : Hid (Below W.heap.size W V) := by rw [hV]; exact HB.out.alloc HB.out.size _
      have hVz : V.heap.size = wr.heap.size + 1 := by rw [hV]; simp
      have hWr := HB.out.size
      have HVe : Hid (wr.alloc arrO = V) := hV.symm
      have HCa : Hid (∀ j p, Sy.table[j]? = some p → V.cell? ⟨wr.heap.size, j, none⟩ = some (.string p.2.1)) := by
        intro j p hp
        rw [hV]
        exact arr_cell wr j p hp
      clear hV
      go_wp2
      rw [HVe.out]
      clear HVe HB
      generalize wr.heap.size = N at hVz hWr HCa ⊢
      go_loopw [5, 6, 19] (fun sv ov iv wi => ∃ (s : ByteArray) (o : Int) (j : Nat), sv = .string s ∧ ov = .int .i64 o ∧ iv = .int .i64 j ∧ j ≤ 13 ∧ Hid (Met L J R n j s o) ∧ Hid (Below V.heap.size V wi)) (fun _ _ iv _ => 13 - (intOf iv).toNat)
      case atStart => exact ⟨_, _, 0, rfl, rfl, rfl, by decide, HM, Below.refl _ _⟩
      case round =>
        obtain ⟨s, o, j, rfl, rfl, rfl, hj, HM, HBi⟩ := hrel
        have hsz := HM.out.size hRz
        obtain ⟨ho1, ho7⟩ := HM.out.own hL1 hL5
        by_cases hj13 : j < 13
        · obtain ⟨p, hp⟩ : ∃ p, Sy.table[j]? = some p := ⟨_, List.getElem?_eq_getElem (by simpa [Sy.table] using hj13)⟩
          have HP : Hid (Sy.table[j]? = some p) := hp
          have ca : wr.cell? ⟨N, j, none⟩ = some (.string p.2.1) := (HBi.out.cell (p := ⟨N, j, none⟩) (by show N < _; omega)).trans (HCa.out j p hp)
          obtain ⟨tx, htx⟩ : ∃ tx, tx = p.2.1 := ⟨_, rfl⟩
          rw [← htx] at ca
          obtain ⟨q, hq⟩ : ∃ q, q = sgK n tx := ⟨_, rfl⟩
          have HQq : Hid (q = sgK n tx) := hq
          obtain ⟨mt, hmt⟩ : ∃ mt : Bool, mt = decide (n = L ∧ j = J) := ⟨_, rfl⟩
          have HMt : Hid (mt = decide (n = L ∧ j = J)) := hmt
          have eqq : (q == x.kind) = mt := by
            rw [hq, hmt, htx]
            have := sg_met (n := n) hn_1 h5 hp hJ.out
            rw [Bool.eq_iff_iff]
            simpa using this
          have HWi : Hid (Below W.heap.size W wr) := bel_next HVb.out HBi.out HVb.out.size
          have g0 : wr.cell? ⟨w.heap.size, 0, none⟩ = some (.int .i64 x.kind) := (HWi.out.cell (p := ⟨w.heap.size, 0, none⟩) hWz).trans HG0.out
          have HTx : Hid (tx = p.2.1) := htx
          clear hp htx hq hmt
          go_upto_region 9 with fail
          go_cut [28] (fun v wx => v = .bool mt ∧ Hid (Below V.heap.size V wx))
          case first =>
            go_region_with (go_at_call 46; refine (sign_any n tx _ hn_1 h5).mono ?_; rintro e w1 ⟨he, hb1⟩; rw [← HQq.out] at he; subst he; have HB1 : Hid (Below V.heap.size V w1) := bel_next HBi.out.drew hb1 HBi.out.size; have g1 : w1.cell? ⟨w.heap.size, 0, none⟩ = some (.int .i64 x.kind) := (hb1.cell (p := ⟨w.heap.size, 0, none⟩) (by show w.heap.size < wr.heap.size; have := HWi.out.size; omega)).trans g0; clear hb1)
            all_goals
              go_wp2_with fail
              go_meet
              exact ⟨rfl, Hid.out (by assumption)⟩
          case rest =>
            obtain ⟨rfl, HC⟩ := hcut
            clear ca g0 eqq
            by_cases hm : n = L ∧ j = J
            · obtain rfl : mt = true := by rw [HMt.out]; exact decide_eq_true hm
              obtain ⟨hnL, hjJ⟩ := hm
              subst hnL
              have HjJ : Hid (j = J) := hjJ
              clear hjJ
              go_upto_if 32 with fail
              go_cut [10] (fun v wx => v = .int .i64 lf ∧ wx = wc)
              case first =>
                by_cases h3 : n = 3
                · have HL : Hid (4 = lf) := by rw [hlf.out, if_pos h3]; rfl
                  subst h3
                  go_wp2_with fail
                  go_meet
                  exact ⟨by rw [← HL.out], rfl⟩
                · have HL : Hid (n = lf) := by rw [hlf.out, if_neg h3]; rfl
                  go_wp2_with fail
                  go_meet
                  exact ⟨by rw [← HL.out], rfl⟩
              case rest =>
                obtain ⟨rfl, rfl⟩ := hcut
                have HSg : Hid (tx = sg) := by
                  have h1 := HP.out
                  rw [HjJ.out, hJ.out] at h1
                  simp only [Option.some.injEq] at h1
                  rw [HTx.out, ← h1]
                  rfl
                have HWc : Hid (Below W.heap.size W wc) := bel_next HVb.out HC.out HVb.out.size
                have HwC : Hid (Below w.heap.size w wc) := bel_next HWb.out HWc.out (by omega)
                have g3 : wc.cell? ⟨w.heap.size, 3, none⟩ = some (.slice (some ⟨b, off, none⟩) 2 c) := (HWc.out.cell (p := ⟨w.heap.size, 3, none⟩) hWz).trans HG3.out
                have hwz : w.heap.size < wc.heap.size := by have := HWc.out.size; omega
                obtain ⟨q0, q1, q2, q3⟩ := HQ.out
                obtain ⟨q4, q5, q6, q7⟩ := HQ1.out
                rw [← HwC.out.cell (p := ⟨b, off, none⟩) hb] at q0
                rw [← HwC.out.cell (p := ⟨b, off + 1, none⟩) hb] at q1
                rw [← HwC.out.cell (p := ⟨b, off + 2, none⟩) hb] at q2
                rw [← HwC.out.cell (p := ⟨b, off + 3, none⟩) hb] at q3
                rw [← HwC.out.cell (p := ⟨b, off + 4, none⟩) hb] at q4
                rw [← HwC.out.cell (p := ⟨b, off + 4 + 1, none⟩) hb] at q5
                rw [← HwC.out.cell (p := ⟨b, off + 4 + 2, none⟩) hb] at q6
                rw [← HwC.out.cell (p := ⟨b, off + 4 + 3, none⟩) hb] at q7
                have hbz : b < wc.heap.size := by omega
                have htxz : tx.size ≤ 3 := by rw [HSg.out]; exact hsg
                go_upto_region 14 with fail
                have HM2 : Hid (Met n J R n (j + 1) (t0 ++ tx ++ ⟨#[32]⟩ ++ t1) n) := by
                  have : t0 ++ tx ++ ⟨#[32]⟩ ++ t1 = R := by rw [HRR.out, HSg.out]
                  rw [this]
                  exact Met.hit rfl HjJ.out
                have wL : IntKind.i64.wrap (n + 1) = n + 1 := IntWalk.i64_in _ ⟨by omega, by omega⟩
                clear e0 e1 e2 e3 e4 e5 e6 e7 e8 e9 e10 hsg hRz hl hWr hVz HCa HG0 HG3 HQ HQ1 HP HTx HQq HMt
                have n1 : ¬ 9223372036854775807 < t0.size + tx.size := by omega
                have n2 : ¬ 9223372036854775807 < t0.size + tx.size + 1 := by omega
                have n3 : ¬ 9223372036854775807 < t0.size + tx.size + 1 + t1.size := by omega
                go_region_held3 (fun w' => w'.cell? ⟨w.heap.size, 3, none⟩ = some (.slice (some ⟨b, off, none⟩) 2 c) ∧ w'.cell? ⟨b, off, none⟩ = some (.int .i64 k0.kind) ∧ w'.cell? ⟨b, off + 1, none⟩ = some (.int .i64 k0.n) ∧ w'.cell? ⟨b, off + 2, none⟩ = some (.string k0.name) ∧ w'.cell? ⟨b, off + 3, none⟩ = some (.slice a0 k0.kids.length c0) ∧ w'.cell? ⟨b, off + 4, none⟩ = some (.int .i64 k1.kind) ∧ w'.cell? ⟨b, off + 4 + 1, none⟩ = some (.int .i64 k1.n) ∧ w'.cell? ⟨b, off + 4 + 2, none⟩ = some (.string k1.name) ∧ w'.cell? ⟨b, off + 4 + 3, none⟩ = some (.slice a1 k1.kids.length c1)) (go_keep)
                  (first
                    | (have hx1 := HwC1.out; go_at_call 25; (try rw [wL]); refine (hT1.out _ (by first | exact hx1 | exact hx1.drew)).mono ?_; clear hx1; rintro e w2 ⟨rfl, hb2⟩; have HB2 : Hid (Below V.heap.size V w2) := bel_next HB1.out hb2 HB1.out.size; have g32 : w2.cell? ⟨w.heap.size, 3, none⟩ = some (.slice (some ⟨b, off, none⟩) 2 c) := (hb2.cell (p := ⟨w.heap.size, 3, none⟩) hwz1).trans g31; have q02 : w2.cell? ⟨b, off, none⟩ = some (.int .i64 k0.kind) := (hb2.cell (p := ⟨b, off, none⟩) hbz1).trans q01; have q12 : w2.cell? ⟨b, off + 1, none⟩ = some (.int .i64 k0.n) := (hb2.cell (p := ⟨b, off + 1, none⟩) hbz1).trans q11; have q22 : w2.cell? ⟨b, off + 2, none⟩ = some (.string k0.name) := (hb2.cell (p := ⟨b, off + 2, none⟩) hbz1).trans q21; have q32 : w2.cell? ⟨b, off + 3, none⟩ = some (.slice a0 k0.kids.length c0) := (hb2.cell (p := ⟨b, off + 3, none⟩) hbz1).trans q31; have q42 : w2.cell? ⟨b, off + 4, none⟩ = some (.int .i64 k1.kind) := (hb2.cell (p := ⟨b, off + 4, none⟩) hbz1).trans q41; have q52 : w2.cell? ⟨b, off + 4 + 1, none⟩ = some (.int .i64 k1.n) := (hb2.cell (p := ⟨b, off + 4 + 1, none⟩) hbz1).trans q51; have q62 : w2.cell? ⟨b, off + 4 + 2, none⟩ = some (.string k1.name) := (hb2.cell (p := ⟨b, off + 4 + 2, none⟩) hbz1).trans q61; have q72 : w2.cell? ⟨b, off + 4 + 3, none⟩ = some (.slice a1 k1.kids.length c1) := (hb2.cell (p := ⟨b, off + 4 + 3, none⟩) hbz1).trans q71; clear hb2)
                    | (go_at_call 25; refine (hT0.out _ (by first | exact HwC.out.drew | exact HwC.out)).mono ?_; rintro e w1 ⟨rfl, hb1⟩; have HB1 : Hid (Below V.heap.size V w1) := bel_next HC.out.drew hb1 HC.out.size; have HwC1 : Hid (Below w.heap.size w w1) := bel_next HwC.out.drew hb1 HwC.out.size; have hbz1 : b < w1.heap.size := Nat.lt_of_lt_of_le hbz hb1.size; have hwz1 : w.heap.size < w1.heap.size := Nat.lt_of_lt_of_le hwz hb1.size; have g31 : w1.cell? ⟨w.heap.size, 3, none⟩ = some (.slice (some ⟨b, off, none⟩) 2 c) := (hb1.cell (p := ⟨w.heap.size, 3, none⟩) hwz).trans g3; have q01 : w1.cell? ⟨b, off, none⟩ = some (.int .i64 k0.kind) := (hb1.cell (p := ⟨b, off, none⟩) hbz).trans q0; have q11 : w1.cell? ⟨b, off + 1, none⟩ = some (.int .i64 k0.n) := (hb1.cell (p := ⟨b, off + 1, none⟩) hbz).trans q1; have q21 : w1.cell? ⟨b, off + 2, none⟩ = some (.string k0.name) := (hb1.cell (p := ⟨b, off + 2, none⟩) hbz).trans q2; have q31 : w1.cell? ⟨b, off + 3, none⟩ = some (.slice a0 k0.kids.length c0) := (hb1.cell (p := ⟨b, off + 3, none⟩) hbz).trans q3; have q41 : w1.cell? ⟨b, off + 4, none⟩ = some (.int .i64 k1.kind) := (hb1.cell (p := ⟨b, off + 4, none⟩) hbz).trans q4; have q51 : w1.cell? ⟨b, off + 4 + 1, none⟩ = some (.int .i64 k1.n) := (hb1.cell (p := ⟨b, off + 4 + 1, none⟩) hbz).trans q5; have q61 : w1.cell? ⟨b, off + 4 + 2, none⟩ = some (.string k1.name) := (hb1.cell (p := ⟨b, off + 4 + 2, none⟩) hbz).trans q6; have q71 : w1.cell? ⟨b, off + 4 + 3, none⟩ = some (.slice a1 k1.kids.length c1) := (hb1.cell (p := ⟨b, off + 4 + 3, none⟩) hbz).trans q7; clear hb1))
                all_goals
                  go_wp2
                  go_roundw
                  case rel => exact ⟨_, n, j + 1, rfl, rfl, by go_num, by omega, HM2, Hid.out (by assumption)⟩
                  case measure => simp [intOf]; omega
            · obtain rfl : mt = false := by rw [HMt.out]; exact decide_eq_false hm
              have HM2 : Hid (Met L J R n (j + 1) s o) := HM.out.step hm
              clear hm
              go_wp2
              go_roundw
              case rel => exact ⟨s, o, j + 1, rfl, rfl, by go_num, by omega, HM2, HC⟩
              case measure => simp [intOf]; omega
        · obtain rfl : j = 13 := by omega
          have HM2 : Hid (Met L J R (n + 1) 0 s o) := HM.out.turn hJ13
          have HW2 : Hid (Below W.heap.size W wr) := bel_next HVb.out HBi.out HVb.out.size
          go_wp2
          go_roundw
          case rel => exact ⟨s, o, n + 1, rfl, rfl, by go_num, by omega, by omega, HM2, HW2⟩
          case measure => simp [intOf]; omega
    · have HM6 : Hid (s = R ∧ o = L) := by have := HM.out; unfold Met at this; rw [if_pos (by omega)] at this; exact this
      obtain ⟨hs6, ho6⟩ := HM6.out
      subst hs6
      subst ho6
      have HBw : Hid (Below w.heap.size w wr) := bel_next HWb.out HB.out (by omega)
      by_cases hlt : o < need
      · have HR2 : Hid (r = ⟨#[40, 32]⟩ ++ s ++ ⟨#[41, 32]⟩) := by have := HR.out; rw [if_pos hlt] at this; exact this
        go_wp2
        go_ret
        exact ⟨by rw [HR2.out]; rfl, HBw.out⟩
      · have HR2 : Hid (r = s) := by have := HR.out; rw [if_neg hlt] at this; exact this
        have hge : need ≤ o := by omega
        clear hlt
        go_wp2
        go_ret
        exact ⟨by rw [HR2.out]; rfl, HBw.out⟩

end Go.Proofs.YtbbklahhnepiaaaDoor
