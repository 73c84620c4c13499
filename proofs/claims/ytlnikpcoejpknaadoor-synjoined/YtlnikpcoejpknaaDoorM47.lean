/- The walk of ref2.Same, of two programs that are alike. -/
import Derived.Test.YtlnikpcoejpknaaDoorM46
import Derived.BigQuiet
import Derived.Test.YtlnikpcoejpknaaDoorM44
import Derived.Test.YtlnikpcoejpknaaDoorM45
namespace Go.Proofs.YtlnikpcoejpknaaDoor
open Go.RowKit

abbrev sdO (d : Sy.Df) (pa : Option Addr) (pc : Nat) (ba : Option Addr) (bc : Nat) : Obj := .cells #[.int .i64 d.kind, .string d.name, .int .i64 d.ty.kind, .string d.ty.gen, .int .i64 d.takes.kind, .string d.takes.gen, .int .i64 d.cap, .slice pa d.params.length pc, .slice ba d.body.length bc] 47 (0, 0)

theorem sd_cells {w : World} {b : Nat} {v0 v1 v2 v3 v4 v5 v6 v7 v8 : Value} {t : TypeId} (h : w.heap[b]? = some (.cells #[v0, v1, v2, v3, v4, v5, v6, v7, v8] t (0, 0))) :
    w.cell? ⟨b, 0, none⟩ = some v0 ∧ w.cell? ⟨b, 1, none⟩ = some v1 ∧ w.cell? ⟨b, 2, none⟩ = some v2 ∧ w.cell? ⟨b, 3, none⟩ = some v3 ∧ w.cell? ⟨b, 4, none⟩ = some v4 ∧ w.cell? ⟨b, 5, none⟩ = some v5 ∧ w.cell? ⟨b, 6, none⟩ = some v6 ∧ w.cell? ⟨b, 7, none⟩ = some v7 ∧ w.cell? ⟨b, 8, none⟩ = some v8 := by simp [World.cell?, h]

theorem ty_eq (x : Int) (y : ByteArray) (w : World) : Sem.run Tryd.prog (binOp BinOp.neq 43 (.agg #[.int .i64 x, .string y]) (.agg #[.int .i64 x, .string y])) w = .ok (.bool false) w := by
  simp [go_sem]
theorem pm_eq (z : ByteArray) (x : Int) (y : ByteArray) (w : World) : Sem.run Tryd.prog (binOp BinOp.neq 54 (.agg #[.string z, .int .i64 x, .string y]) (.agg #[.string z, .int .i64 x, .string y])) w = .ok (.bool false) w := by
  simp [go_sem]


theorem bel_drewX {B : Nat} {a w : World} (h : Below B a w) (n : Nat) : Below B a (w.drewN n) := ⟨h.os, h.tape, h.output, h.size, h.block⟩

set_option maxRecDepth 100000 in
set_option maxHeartbeats 4000000 in
/-- Two programs alike are told so. -/
theorem sameDefs_any (B : Nat) (l : List Sy.Df) (a1 a2 : Option Addr) (c1 c2 : Nat) (w : World) (hB : B ≤ w.heap.size) (h1 : Hid (DfsIn B w l a1)) (h2 : Hid (DfsIn B w l a2)) :
    Calls Tryd.prog 11 #[.slice a1 l.length c1, .slice a2 l.length c2] w fun e w' => e = .returned (.bool true) ∧ Below w.heap.size w w' := by
  have hlen : l.length ≤ 9223372036854775807 := h1.out.1
  have e0 : ((l.length : Int) != (l.length : Int)) = false := by simp
  go_enter Tryd.func11, Tryd.ntmps11
  go_wp2
  clear e0
  go_loopw [16] (fun i wr => ∃ k : Nat, k ≤ l.length ∧ i = .int .i64 k ∧ Hid (Below w.heap.size w wr)) (fun i _ => l.length - (intOf i).toNat)
  case atStart => exact ⟨0, Nat.zero_le _, rfl, Below.refl _ _⟩
  case round =>
    obtain ⟨k, hk, rfl, HBr⟩ := hrel
    by_cases hlt : k < l.length
    · obtain ⟨d, hd⟩ : ∃ d, l[k]? = some d := ⟨_, List.getElem?_eq_getElem hlt⟩
      obtain ⟨b1, o1, pa, pc, ba, bc, rfl, hb1, u0, u1, u2, u3, u4, u5, u6, u7, u8, i1⟩ := h1.out.2 k d hd
      obtain ⟨b2, o2, pa', pc', ba', bc', rfl, hb2, v0, v1, v2, v3, v4, v5, v6, v7, v8, i2⟩ := h2.out.2 k d hd
      have hz := HBr.out.size
      have hsw := same_below HBr.out
      have l1 : b1 < wr.heap.size := by omega
      have l2 : b2 < wr.heap.size := by omega
      have l1' : b1 < wr.heap.size + 1 := by omega
      have l2' : b2 < wr.heap.size + 1 := by omega
      rw [← hsw _ _ (by omega)] at u0 u1 u2 u3 u4 u5 u6 u7 u8 v0 v1 v2 v3 v4 v5 v6 v7 v8
      obtain ⟨hh1, j1⟩ := i1.2.2.2.2
      obtain ⟨hh2, j2⟩ := i2.2.2.2.2
      have HD1 : Hid (BodyIn B wr hh1 d.body ba) := j1.same (fun b o hb => hsw b o (by omega))
      have HD2 : Hid (BodyIn B wr hh2 d.body ba') := j2.same (fun b o hb => hsw b o (by omega))
      have HP1 : Hid (PmsIn B wr d.params pa) := i1.2.2.2.1.same (fun b o hb => hsw b o (by omega))
      have HP2 : Hid (PmsIn B wr d.params pa') := i2.2.2.2.1.same (fun b o hb => hsw b o (by omega))
      have hBr : B ≤ wr.heap.size := by omega
      have m0 : (0 : Int) ≤ (k : Int) := by omega
      have m1 : (k : Int) < (l.length : Int) := by omega
      clear i1 i2 hsw hd hb1 hb2 j1 j2 hz
      go_wp2
      go_region
      · skip
        obtain ⟨W1, hW1⟩ : ∃ W1, W1 = ((wr.alloc (sdO d pa pc ba bc)).alloc (sdO d pa' pc' ba' bc')).drew := ⟨_, rfl⟩
        have HB1 : Hid (Below wr.heap.size wr W1) := by rw [hW1]; exact (sx_bel2 wr _ _).drew
        have hX : W1.heap[wr.heap.size]? = some (sdO d pa pc ba bc) := by rw [hW1]; exact sx_at1 _ _ _
        have hY : W1.heap[(wr.heap.size + 1)]? = some (sdO d pa' pc' ba' bc') := by rw [hW1]; exact sx_at2 _ _ _
        rw [← hW1]
        clear hW1
        have HX := hideX hX
        have HY := hideX hY
        have HBW : Hid (Below w.heap.size w W1) := HBr.out.trans (HB1.out.mono HBr.out.size)
        have HPs : Hid (wr.heap.size < W1.heap.size) := lt_of_block hX
        have HQs : Hid ((wr.heap.size + 1) < W1.heap.size) := lt_of_block hY
        obtain ⟨p0, p1, p2, p3, p4, p5, p6, p7, p8⟩ := sd_cells hX
        obtain ⟨q0, q1, q2, q3, q4, q5, q6, q7, q8⟩ := sd_cells hY
        have k1 : (d.kind != d.kind) = false := by simp
        have k2 := sx_str d.name
        have k3 := ty_eq d.ty.kind d.ty.gen
        have k4 := ty_eq d.takes.kind d.takes.gen
        have k5 : (d.cap != d.cap) = false := by simp
        have k6 : ((d.params.length : Int) != (d.params.length : Int)) = false := by simp
        have hB1 : B ≤ W1.heap.size := by have := HB1.out.size; omega
        have HS1 : Hid (SameB d.body W1 ba ba') := sameStats_any hB1 (HD1.out.same (fun b o hb => same_below HB1.out b o (by omega))) (HD2.out.same (fun b o hb => same_below HB1.out b o (by omega)))
        have HM1 : Hid (PmsIn B W1 d.params pa) := HP1.out.same (fun b o hb => same_below HB1.out b o (by omega))
        have HM2 : Hid (PmsIn B W1 d.params pa') := HP2.out.same (fun b o hb => same_below HB1.out b o (by omega))
        clear hX hY u0 u1 u2 u3 u4 u5 u6 u7 u8 v0 v1 v2 v3 v4 v5 v6 v7 v8 HB1 l1 l2 l1' l2' HD1 HD2 HP1 HP2 HBr
        generalize (wr.heap.size + 1) = Q at *
        generalize wr.heap.size = P at *
        go_wp2_with fail
        refine (HS1.out bc bc').mono ?_
        rintro e w2 ⟨rfl, hb2⟩
        have HB2 := hideX hb2
        obtain ⟨p0, p1, p2, p3, p4, p5, p6, p7, p8⟩ := sd_cells ((hb2.block P HPs.out).trans HX.out)
        obtain ⟨q0, q1, q2, q3, q4, q5, q6, q7, q8⟩ := sd_cells ((hb2.block Q HQs.out).trans HY.out)
        have HN1 : Hid (PmsIn B w2 d.params pa) := HM1.out.same (fun b o hb => same_below hb2 b o (by omega))
        have HN2 : Hid (PmsIn B w2 d.params pa') := HM2.out.same (fun b o hb => same_below hb2 b o (by omega))
        have hpl : d.params.length ≤ 9223372036854775807 := HM1.out.1
        clear hb2 k1 k2 k3 k4 k5 k6 p0 p1 p2 p3 p4 p5 p6 p8 q0 q1 q2 q3 q4 q5 q6 q8 HM1 HM2 HS1
        go_wp2
        go_loopw [80] (fun i wr3 => ∃ j n : Nat, j ≤ d.params.length ∧ i = .int .i64 j ∧ wr3 = w2.drewN n) (fun i _ => d.params.length - (intOf i).toNat)
        case atStart => exact ⟨0, 0, Nat.zero_le _, rfl, rfl⟩
        case round =>
          obtain ⟨j, n, hj, rfl, rfl⟩ := hrel
          by_cases hjl : j < d.params.length
          · obtain ⟨x, hx⟩ : ∃ x, d.params[j]? = some x := ⟨_, List.getElem?_eq_getElem hjl⟩
            obtain ⟨g1, r1, hpa, _, x0, x1, x2, _, _⟩ := HN1.out.2 j x hx
            obtain ⟨g2, r2, hpa', _, y0, y1, y2, _, _⟩ := HN2.out.2 j x hx
            subst hpa hpa'
            have ie := pm_eq x.name x.ty.kind x.ty.gen
            have m0 : (0 : Int) ≤ (j : Int) := by omega
            have m1 : (j : Int) < (d.params.length : Int) := by omega
            clear hx
            go_wp2
            go_quiet (fail)
            go_wp2
            go_roundw
            case rel => exact ⟨j + 1, _, by omega, by go_num, rfl⟩
            case measure => simp [intOf]; omega
          · go_wp2
            go_roundw
            case rel => exact ⟨k + 1, by omega, by go_num, bel_drewX (HBW.out.trans (HB2.out.mono HBW.out.size)) _⟩
            case measure => simp [intOf]; omega
      · skip
        obtain ⟨W1, hW1⟩ : ∃ W1, W1 = ((wr.alloc (sdO d pa' pc' ba' bc')).alloc (sdO d pa pc ba bc)).drew := ⟨_, rfl⟩
        have HB1 : Hid (Below wr.heap.size wr W1) := by rw [hW1]; exact (sx_bel2 wr _ _).drew
        have hX : W1.heap[(wr.heap.size + 1)]? = some (sdO d pa pc ba bc) := by rw [hW1]; exact sx_at2 _ _ _
        have hY : W1.heap[wr.heap.size]? = some (sdO d pa' pc' ba' bc') := by rw [hW1]; exact sx_at1 _ _ _
        rw [← hW1]
        clear hW1
        have HX := hideX hX
        have HY := hideX hY
        have HBW : Hid (Below w.heap.size w W1) := HBr.out.trans (HB1.out.mono HBr.out.size)
        have HPs : Hid ((wr.heap.size + 1) < W1.heap.size) := lt_of_block hX
        have HQs : Hid (wr.heap.size < W1.heap.size) := lt_of_block hY
        obtain ⟨p0, p1, p2, p3, p4, p5, p6, p7, p8⟩ := sd_cells hX
        obtain ⟨q0, q1, q2, q3, q4, q5, q6, q7, q8⟩ := sd_cells hY
        have k1 : (d.kind != d.kind) = false := by simp
        have k2 := sx_str d.name
        have k3 := ty_eq d.ty.kind d.ty.gen
        have k4 := ty_eq d.takes.kind d.takes.gen
        have k5 : (d.cap != d.cap) = false := by simp
        have k6 : ((d.params.length : Int) != (d.params.length : Int)) = false := by simp
        have hB1 : B ≤ W1.heap.size := by have := HB1.out.size; omega
        have HS1 : Hid (SameB d.body W1 ba ba') := sameStats_any hB1 (HD1.out.same (fun b o hb => same_below HB1.out b o (by omega))) (HD2.out.same (fun b o hb => same_below HB1.out b o (by omega)))
        have HM1 : Hid (PmsIn B W1 d.params pa) := HP1.out.same (fun b o hb => same_below HB1.out b o (by omega))
        have HM2 : Hid (PmsIn B W1 d.params pa') := HP2.out.same (fun b o hb => same_below HB1.out b o (by omega))
        clear hX hY u0 u1 u2 u3 u4 u5 u6 u7 u8 v0 v1 v2 v3 v4 v5 v6 v7 v8 HB1 l1 l2 l1' l2' HD1 HD2 HP1 HP2 HBr
        generalize (wr.heap.size + 1) = P at *
        generalize wr.heap.size = Q at *
        go_wp2_with fail
        refine (HS1.out bc bc').mono ?_
        rintro e w2 ⟨rfl, hb2⟩
        have HB2 := hideX hb2
        obtain ⟨p0, p1, p2, p3, p4, p5, p6, p7, p8⟩ := sd_cells ((hb2.block P HPs.out).trans HX.out)
        obtain ⟨q0, q1, q2, q3, q4, q5, q6, q7, q8⟩ := sd_cells ((hb2.block Q HQs.out).trans HY.out)
        have HN1 : Hid (PmsIn B w2 d.params pa) := HM1.out.same (fun b o hb => same_below hb2 b o (by omega))
        have HN2 : Hid (PmsIn B w2 d.params pa') := HM2.out.same (fun b o hb => same_below hb2 b o (by omega))
        have hpl : d.params.length ≤ 9223372036854775807 := HM1.out.1
        clear hb2 k1 k2 k3 k4 k5 k6 p0 p1 p2 p3 p4 p5 p6 p8 q0 q1 q2 q3 q4 q5 q6 q8 HM1 HM2 HS1
        go_wp2
        go_loopw [80] (fun i wr3 => ∃ j n : Nat, j ≤ d.params.length ∧ i = .int .i64 j ∧ wr3 = w2.drewN n) (fun i _ => d.params.length - (intOf i).toNat)
        case atStart => exact ⟨0, 0, Nat.zero_le _, rfl, rfl⟩
        case round =>
          obtain ⟨j, n, hj, rfl, rfl⟩ := hrel
          by_cases hjl : j < d.params.length
          · obtain ⟨x, hx⟩ : ∃ x, d.params[j]? = some x := ⟨_, List.getElem?_eq_getElem hjl⟩
            obtain ⟨g1, r1, hpa, _, x0, x1, x2, _, _⟩ := HN1.out.2 j x hx
            obtain ⟨g2, r2, hpa', _, y0, y1, y2, _, _⟩ := HN2.out.2 j x hx
            subst hpa hpa'
            have ie := pm_eq x.name x.ty.kind x.ty.gen
            have m0 : (0 : Int) ≤ (j : Int) := by omega
            have m1 : (j : Int) < (d.params.length : Int) := by omega
            clear hx
            go_wp2
            go_quiet (fail)
            go_wp2
            go_roundw
            case rel => exact ⟨j + 1, _, by omega, by go_num, rfl⟩
            case measure => simp [intOf]; omega
          · go_wp2
            go_roundw
            case rel => exact ⟨k + 1, by omega, by go_num, bel_drewX (HBW.out.trans (HB2.out.mono HBW.out.size)) _⟩
            case measure => simp [intOf]; omega
    · go_wp2
      go_ret
      exact ⟨rfl, HBr.out⟩

end Go.Proofs.YtlnikpcoejpknaaDoor

/- The walk of SynJoined: the law itself. -/
namespace Go.Proofs.YtlnikpcoejpknaaDoor
open Go.RowKit

theorem jn_bytes (s t : ByteArray) : (s ++ ⟨#[10]⟩ ++ t).data.toList = s.data.toList ++ 10 :: t.data.toList := by simp
theorem jn_size (s t : ByteArray) : (s ++ ⟨#[10]⟩ ++ t).size = s.size + 1 + t.size := by
  simp [ByteArray.size_append]
  rfl

/-- An empty row of one's own. -/
theorem jn_empty (w : World) (t : TypeId) : (w.alloc (.cells #[] t)).ownsRow w.heap.size t 9 (.slice (some ⟨w.heap.size, 0, none⟩) 0 0) 0 [] := by
  refine ⟨by simp, .inr ⟨w.heap.size, 0, #[], rfl, Nat.le_refl _, heap_alloc_new w _, Nat.le_refl _, by unfold maxLen; omega, by simp, by simp⟩⟩

/-- Where a row's cells lie. -/
theorem dvs_addr {B : Nat} {w : World} {l : List Sy.Df} {a : Option Addr} {vs : List DV} (h : DfsIn B w l a) (hv : vs.map DV.d = l) {ad : Addr} (ha : a = some ad) {j : Nat} {v : Value} (hj : (vs.flatMap dvC)[j]? = some v) : ∃ b off, ad = ⟨b, off, none⟩ ∧ b < B := by
  obtain ⟨i, j', x, rfl, _, hx, _⟩ := jn_mem dvC 9 (by decide) (fun _ => rfl) hj
  have hd : l[i]? = some x.d := by rw [← hv, List.getElem?_map, hx]; rfl
  obtain ⟨b, off, pa, pc, ba, bc, e, hb, _⟩ := h.2 i x.d hd
  rw [ha] at e
  cases e
  exact ⟨b, off, rfl, hb⟩

set_option maxRecDepth 100000 in
set_option maxHeartbeats 2000000 in
theorem joined_any (s t : ByteArray) (w : World) (hs : s.size ≤ 140737488355328) (ht : t.size ≤ 140737488355328) (hT : Hid (TabV w 0)) :
    Calls Tryd.prog 4 #[.string s, .string t] w fun e w' => e = .returned (.bool true) ∧ Below w.heap.size w w' := by
  obtain ⟨ra, hra⟩ : ∃ ra, ra = readL s := ⟨_, rfl⟩
  obtain ⟨rb, hrb⟩ : ∃ rb, rb = readL t := ⟨_, rfl⟩
  obtain ⟨rc, hrc⟩ : ∃ rc, rc = readL (s ++ ⟨#[10]⟩ ++ t) := ⟨_, rfl⟩
  have HRa : Hid (ra = readL s) := hra
  have HRb : Hid (rb = readL t) := hrb
  have HRc : Hid (rc = readL (s ++ ⟨#[10]⟩ ++ t)) := hrc
  have HJ : Hid (ra.2.1 = 0 → rb.2.1 = 0 → (rc.2.1 = 0 ∧ rc.1 = ra.1 ++ rb.1) ∨ rc.2.1 = 4 ∨ rc.2.1 = 5) := by
    intro h1 h2
    rw [hra] at h1 ⊢
    rw [hrb] at h2 ⊢
    rw [hrc]
    exact readL_join (jn_bytes s t) h1 h2
  clear hra hrb hrc
  obtain ⟨la, ea, pa⟩ := ra
  obtain ⟨lb, eb, pb⟩ := rb
  obtain ⟨lc, ec, pc⟩ := rc
  have hs' : s.size ≤ maxLen := by unfold maxLen; omega
  have ht' : t.size ≤ maxLen := by unfold maxLen; omega
  have hu' : (s ++ ⟨#[10]⟩ ++ t).size ≤ maxLen := by rw [jn_size]; unfold maxLen; omega
  have z1 : ¬ 9223372036854775807 < s.size + 1 := by omega
  have z2 : ¬ 9223372036854775807 < s.size + 1 + t.size := by omega
  have HU := hideX hu'
  clear hu'
  go_enter Tryd.func4, Tryd.ntmps4
  go_wp2_with fail
  refine (alive_any w hT.out).mono ?_
  rintro e w1 ⟨rfl, hb1⟩
  have HB1 := hideX hb1
  have HT1 : Hid (TabV w1 0) := hT.out.keep hb1 hT.out.lt
  clear hb1
  go_wp2_with fail
  refine (read_in s (la, ea, pa) w1 hs' HT1.out HRa).mono ?_
  rintro e w2 ⟨a1, c1, rfl, hl1, hd1, hb2⟩
  have HD1 := hideX hd1
  have HB2 : Hid (Below w.heap.size w w2) := jn_step HB1.out hb2
  have HT2 : Hid (TabV w2 0) := HT1.out.keep hb2 HT1.out.lt
  clear hd1 hb2
  obtain ⟨W2, hW2⟩ : ∃ W2, w2.alloc (.cells #[.int .i64 ea, .int .i64 pa] 25) = W2 := ⟨_, rfl⟩
  have HK2 : Hid (Below w2.heap.size w2 W2) := by rw [← hW2]; exact jn_one _ _
  have hF2 : W2.heap[w2.heap.size]? = some (.cells #[.int .i64 ea, .int .i64 pa] 25 (0, 0)) := by rw [← hW2]; exact heap_alloc_new _ _
  have HF2 := hideX hF2
  go_wp2_with fail
  clear hW2
  refine (read_in t (lb, eb, pb) W2 ht' (HT2.out.keep HK2.out HT2.out.lt) HRb).mono ?_
  rintro e w3 ⟨a2, c2, rfl, hl2, hd2, hb3⟩
  have HD2 := hideX hd2
  have HK3 : Hid (Below w2.heap.size w2 w3) := HK2.out.trans (hb3.mono HK2.out.size)
  have HF3 : Hid (w3.heap[w2.heap.size]? = some (.cells #[.int .i64 ea, .int .i64 pa] 25 (0, 0))) := (hb3.block _ (lt_of_block hF2)).trans hF2
  clear hd2 hb3 hF2 HF2
  obtain ⟨W3, hW3⟩ : ∃ W3, w3.alloc (.cells #[.int .i64 eb, .int .i64 pb] 25) = W3 := ⟨_, rfl⟩
  have HK4 : Hid (Below w3.heap.size w3 W3) := by rw [← hW3]; exact jn_one _ _
  have HF4 : Hid (W3.heap[w3.heap.size]? = some (.cells #[.int .i64 eb, .int .i64 pb] 25 (0, 0))) := by rw [← hW3]; exact heap_alloc_new _ _
  have HF5 : Hid (W3.heap[w2.heap.size]? = some (.cells #[.int .i64 ea, .int .i64 pa] 25 (0, 0))) := (HK4.out.block _ (lt_of_block HF3.out)).trans HF3.out
  obtain ⟨f0, _⟩ := two_cell HF5.out
  obtain ⟨g0, _⟩ := two_cell HF4.out
  have HBW : Hid (Below w.heap.size w W3) := jn_step (jn_step HB2.out HK3.out) HK4.out
  by_cases h1 : ea = 0
  case neg =>
    have n1 : (ea != 0) = true := by simpa using h1
    go_wp2
    go_ret
    exact ⟨rfl, HBW.out⟩
  have n1 : (ea != 0) = false := by simpa using h1
  by_cases h2 : eb = 0
  case neg =>
    have n2 : (eb != 0) = true := by simpa using h2
    have H1 := hideX h1
    clear h1
    go_wp2
    go_ret
    exact ⟨rfl, HBW.out⟩
  have n2 : (eb != 0) = false := by simpa using h2
  have HJ2 : Hid ((ec = 0 ∧ lc = la ++ lb) ∨ ec = 4 ∨ ec = 5) := HJ.out h1 h2
  clear HJ h1 h2
  have HT5 : Hid (TabV W3 0) := hT.out.keep HBW.out hT.out.lt
  go_wp2_with fail
  generalize (s ++ (⟨#[10]⟩ : ByteArray) ++ t) = u at HU HRc ⊢
  refine (read_in u (lc, ec, pc) W3 HU.out HT5.out HRc).mono ?_
  rintro e w4 ⟨a3, c3, rfl, hl3, hd3, hb4⟩
  have HD3 := hideX hd3
  have HB4 : Hid (Below W3.heap.size W3 w4) := hb4
  clear hd3 hb4 f0 g0 HU hW3
  obtain ⟨W4, hW4⟩ : ∃ W4, w4.alloc (.cells #[.int .i64 ec, .int .i64 pc] 25) = W4 := ⟨_, rfl⟩
  have HK5 : Hid (Below w4.heap.size w4 W4) := by rw [← hW4]; exact jn_one _ _
  have HF6 : Hid (W4.heap[w4.heap.size]? = some (.cells #[.int .i64 ec, .int .i64 pc] 25 (0, 0))) := by rw [← hW4]; exact heap_alloc_new _ _
  obtain ⟨f0, _⟩ := two_cell HF6.out
  have HBX : Hid (Below w.heap.size w W4) := jn_step (jn_step HBW.out HB4.out) HK5.out
  by_cases h3 : ec = 0
  case neg =>
    have n3 : (ec != 0) = true := by simpa using h3
    rcases HJ2.out with ⟨h4, _⟩ | h4 | h4
    · exact absurd h4 h3
    · have n4 : (ec == 5) = false := by simp [h4]
      have n5 : (ec == 4) = true := by simp [h4]
      clear h3 h4
      go_wp2
      go_ret
      exact ⟨rfl, HBX.out⟩
    · have n4 : (ec == 5) = true := by simp [h4]
      clear h3 h4
      go_wp2
      go_ret
      exact ⟨rfl, HBX.out⟩
  have n3 : (ec != 0) = false := by simpa using h3
  have hlc : lc = la ++ lb := by
    rcases HJ2.out with ⟨_, h4⟩ | h4 | h4
    · exact h4
    · omega
    · omega
  have HLC := hideX hlc
  have hlen : 0 + la.length + lb.length = lc.length := by rw [hlc]; simp
  clear h3 HJ2 HRa HRb HRc hlc
  obtain ⟨idf, hid, hi⟩ : ∃ i, Tryd.prog.info? 47 = some i ∧ (i.zero, i.size, i.bytes) = (some (.agg #[.int .i64 0, .string ⟨#[]⟩, .int .i64 0, .string ⟨#[]⟩, .int .i64 0, .string ⟨#[]⟩, .int .i64 0, .slice none 0 0, .slice none 0 0]), 9, 128) := by
    have := Tryd.infodefx
    cases h : Tryd.prog.info? 47 with
    | none => rw [h] at this; simp at this
    | some i => rw [h] at this; exact ⟨i, rfl, by simpa using this⟩
  have hi0 : idf.zero = some (.agg #[.int .i64 0, .string ⟨#[]⟩, .int .i64 0, .string ⟨#[]⟩, .int .i64 0, .string ⟨#[]⟩, .int .i64 0, .slice none 0 0, .slice none 0 0]) := congrArg Prod.fst hi
  have hi1 : idf.size = 9 := congrArg (fun x => x.2.1) hi
  have hi2 : idf.bytes = 128 := congrArg (fun x => x.2.2) hi
  obtain ⟨va, hva, hda⟩ := dvs_of HD1.out
  obtain ⟨vb, hvb, hdb⟩ := dvs_of HD2.out
  have hna : va.length = la.length := by rw [← hva]; simp
  have hnb : vb.length = lb.length := by rw [← hvb]; simp
  obtain ⟨W5, hW5⟩ : ∃ W5, W4.alloc (.cells #[] 47) = W5 := ⟨_, rfl⟩
  have HO5 : Hid (W5.ownsRow W4.heap.size 47 9 (.slice (some ⟨W4.heap.size, 0, none⟩) 0 0) 0 []) := by rw [← hW5]; exact jn_empty _ _
  have HK6 : Hid (Below W4.heap.size W4 W5) := by rw [← hW5]; exact jn_one _ _
  have hz5 : W5.heap.size = W4.heap.size + 1 := by rw [← hW5]; simp
  have HZ5 := hideX hz5
  clear hz5
  -- what was read lies there still
  have HX24 : Hid (Below w2.heap.size w2 W5) := HK3.out.trans ((HK4.out.trans ((HB4.out.trans ((HK5.out.trans (HK6.out.mono HK5.out.size)).mono HB4.out.size)).mono HK4.out.size)).mono HK3.out.size)
  have HX34 : Hid (Below w3.heap.size w3 W5) := HK4.out.trans ((HB4.out.trans ((HK5.out.trans (HK6.out.mono HK5.out.size)).mono HB4.out.size)).mono HK4.out.size)
  have HX44 : Hid (Below w4.heap.size w4 W5) := HK5.out.trans (HK6.out.mono HK5.out.size)
  have hs2 : w2.heap.size ≤ w3.heap.size := HK3.out.size
  have hs3 : w3.heap.size ≤ W3.heap.size := HK4.out.size
  have hs4 : W3.heap.size ≤ w4.heap.size := HB4.out.size
  have hs5 : w4.heap.size ≤ W4.heap.size := HK5.out.size
  have HDA : Hid (DvsIn w2.heap.size w2 va a1) := hda
  have HDB : Hid (DvsIn w3.heap.size w3 vb a2) := hdb
  have HVA := hideX hva
  have HVB := hideX hvb
  have HNA : Hid (a1 = none → la.length = 0) := fun e => by rw [← hna, HDA.out.none e]; rfl
  have HNB : Hid (a2 = none → lb.length = 0) := fun e => by rw [← hnb, HDB.out.none e]; rfl
  have HW5 := hideX hW5
  clear hda hdb hi hva hvb hW5
  have HC1 : Hid (∀ ad, a1 = some ad → ∀ j v, (va.flatMap dvC)[j]? = some v → W5.cell? (ad.add j) = some v) := by
    intro ad ha j v hv
    obtain ⟨b, off, hb⟩ := dvs_addr HD1.out HVA.out ha hv
    have hc := HDA.out.cells ad ha j v hv
    rw [hb.1, jn_add] at hc ⊢
    exact (HX24.out.cell (p := ⟨b, off + j, none⟩) hb.2).trans hc
  have HC2 : Hid (∀ w6 : World, W5.grownBy w6 (some W4.heap.size) → ∀ ad, a2 = some ad → ∀ j v, (vb.flatMap dvC)[j]? = some v → w6.cell? (ad.add j) = some v) := by
    intro w6 hg ad ha j v hv
    obtain ⟨b, off, hb⟩ := dvs_addr HD2.out HVB.out ha hv
    have hc := HDB.out.cells ad ha j v hv
    rw [hb.1, jn_add] at hc ⊢
    have hb2 := hb.2
    have h5 := HZ5.out
    exact (World.cell?_of_block (w := W5) (hg.block b (by omega) (by simp; omega))).trans ((HX34.out.cell (p := ⟨b, off + j, none⟩) hb.2).trans hc)
  have HLEN := hideX hlen
  clear hlen
  go_wp2_with (first | (at_builtin; have hx1 := HO1.out; refine jn_append_src rfl _ _ 22 rfl W4.heap.size 47 idf _ 9 128 Tryd.underlying22 hid hi0 hi1 hi2 rfl (by decide) v1 (0 + la.length) ([] ++ va.flatMap dvC) rfl hx1 a2 lb.length c2 (vb.flatMap dvC) rfl HNB.out (by rw [jn_len dvC 9 (fun _ => rfl), hnb]) (HC2.out w6 HR1.out) (dvs_one _) (by unfold maxLen; omega) (by omega) (by have := HR1.out.size; rw [HZ5.out] at this; omega) ?_; intro v2 w7 hown2 hgr2; rw [HLEN.out] at hown2; obtain ⟨ao, cap, rfl, hno, hrow⟩ := jn_row hown2; have HNO := hideX hno; have HRW := hideX hrow; have HR2 := hideX hgr2; clear hown2 hgr2 hno hrow hx1) | (at_builtin; rw [HW5.out]; refine jn_append_src rfl _ _ 22 rfl W4.heap.size 47 idf _ 9 128 Tryd.underlying22 hid hi0 hi1 hi2 rfl (by decide) _ 0 [] rfl HO5.out a1 la.length c1 (va.flatMap dvC) rfl HNA.out (by rw [jn_len dvC 9 (fun _ => rfl), hna]) HC1.out (dvs_one _) (by unfold maxLen; omega) (by omega) (by rw [HZ5.out]; omega) ?_; intro v1 w6 hown1 hgr1; have HO1 := hideX hown1; have HR1 : Hid (W5.grownBy w6 (some W4.heap.size)) := hgr1; clear hown1 hgr1))
  have hz6 : W5.heap.size ≤ w6.heap.size := HR1.out.size
  have hz7 : w6.heap.size ≤ w7.heap.size := HR2.out.size
  have hz5 := HZ5.out
  have HLow : Hid (∀ b, b < W4.heap.size → w7.heap[b]? = W5.heap[b]?) := fun b hb => by
    have e1 : w7.heap[b]? = w6.heap[b]? := HR2.out.block b (by omega) (fun e => by have := (jn_block HO1.out b e.symm).1; omega)
    exact e1.trans (HR1.out.block b (by omega) (by simp; omega))
  have HSm : Hid (Go.Proofs.YtlnikpcoejpknaaDoor.Same W4.heap.size W5 w7) := fun b o hb => World.cell?_of_block (w := W5) (HLow.out b hb)
  have HB7 : Hid (Below w.heap.size w w7) := by
    have h5 : Below w.heap.size w W5 := jn_step HBX.out HK6.out
    have hw4 : w.heap.size ≤ W4.heap.size := HBX.out.size
    have h6 : Below w.heap.size w w6 := h5.grown HR1.out (by omega) (fun k e => by cases e; exact hw4)
    exact h6.grown HR2.out (by omega) (fun k e => by have := (jn_block HO1.out k e).1; omega)
  have HS3 : Hid (DfsIn w7.heap.size w7 lc a3) := ((HD3.out.same (same_below HX44.out)).same (fun b o hb => HSm.out b o (by omega))).wide (by omega)
  have HSab : Hid (DfsIn w7.heap.size w7 lc ao) := by
    have hvs : (va ++ vb).map DV.d = lc := by rw [HLC.out, List.map_append, HVA.out, HVB.out]
    have hvl : (va ++ vb).length = lc.length := by rw [← hvs]; simp
    rw [← hvs]
    refine defs_row (by rw [hvl]; unfold maxLen; omega) (fun e => by rw [hvl]; exact HNO.out e) (fun ad e => ?_) (fun x hx => ?_)
    · obtain ⟨g, cur, h1, h2, h3, h4⟩ := HRW.out ad e
      exact ⟨g, cur, h1, lt_of_block h3, h3, by rw [hvl, h4]; simp⟩
    · rcases List.mem_append.1 hx with hx | hx
      · exact (((HDA.out.rows x hx).same (same_below HX24.out)).same (fun b o hb => HSm.out b o (by omega))).wide (by omega)
      · exact (((HDB.out.rows x hx).same (same_below HX34.out)).same (fun b o hb => HSm.out b o (by omega))).wide (by omega)
  refine (sameDefs_any w7.heap.size lc a3 ao c3 cap w7 (Nat.le_refl _) HS3 HSab).mono ?_
  rintro e w8 ⟨rfl, hb8⟩
  have HB8 : Hid (Below w.heap.size w w8) := jn_step HB7.out hb8
  clear hb8
  go_wp2
  go_ret
  exact ⟨rfl, HB8.out⟩

end Go.Proofs.YtlnikpcoejpknaaDoor

