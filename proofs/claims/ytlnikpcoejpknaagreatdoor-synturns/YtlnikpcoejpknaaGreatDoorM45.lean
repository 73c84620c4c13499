/- SynTurns answers true whatever the program and the text: a program that is written is read with what its kinds have; what is read is right, and read again from what is written of it. No condition but the form's own reach; the four package-level tables that the road reads hold what the program's text lays (the card ties them). -/
import Derived.Test.YtlnikpcoejpknaaGreatDoorCards
import Derived.Test.YtlnikpcoejpknaaGreatDoorTie
import Derived.Test.YtlnikpcoejpknaaGreatDoorM29
import Derived.Test.YtlnikpcoejpknaaGreatDoorM32
import Derived.Test.YtlnikpcoejpknaaGreatDoorM35
import Derived.Test.YtlnikpcoejpknaaGreatDoorM37
import Derived.Test.YtlnikpcoejpknaaGreatDoorM43
import Derived.Test.YtlnikpcoejpknaaGreatDoorM42
import Derived.Test.YtlnikpcoejpknaaGreatDoorM44
import Derived.WalkKit
import Derived.ProofKit
import Derived.OpenShut
import Derived.ShutString
import Derived.ReadAgain
import Derived.ChangeBears
import Derived.ChangeOld
import Derived.SizedLaws
import Derived.SevenTiedAt
import Derived.Deep.DeepHandedRow
namespace Go.Proofs.YtlnikpcoejpknaaGreatDoor
open Go.RowKit

theorem flt_set {w : World} {N : Nat} {a b c d : Value} {T : TypeId} (h : w.heap[N]? = some (.cells #[a, b] T (0, 0))) : ((w.setCell ⟨N, 0, none⟩ c).setCell ⟨N, 1, none⟩ d).heap[N]? = some (.cells #[c, d] T (0, 0)) := by
  simp only [World.setCell, Array.getElem?_modify, if_true, h, Option.map_some]
  rfl
theorem flt_field (w : World) : (Instr.field 25 (.agg #[.int .i64 0, .int .i64 0]) 0).run Tryz.prog w = .ok (.int .i64 0) w := by kernel_rfl
/-- What Read answers, in what was made. -/
theorem read_q (s : ByteArray) (r : List Sy.Df × Int × Int) (w : World) (hs : s.size ≤ maxLen) (hT : TabV w 0) (hr : Hid (r = readL s)) :
    Calls Tryz.prog 5 #[.string s] w fun e w' => ∃ a c, e = .returned (.tuple #[.slice a r.1.length c, .agg #[.int .i64 r.2.1, .int .i64 r.2.2]]) ∧ r.1.length ≤ 6000 ∧ DfsQ (Mad w w') w' r.1 a ∧ Below w.heap.size w w' := by
  have hr' := hr.out
  subst hr'
  exact read_any s w hs hT
/-- What Print answers, plainly: the text, what is wrong, and with which. -/
def printL (l : List Sy.Df) : ByteArray × Int × Int :=
  if (Sy.wrongL l).1 ≠ 0 then (⟨#[]⟩, (Sy.wrongL l).1, (Sy.wrongL l).2)
  else if 6000 < (joinP l).size then (⟨#[]⟩, 4, 0) else (joinP l, 0, 0)

theorem print_in (l : List Sy.Df) (r : ByteArray × Int × Int) (a : Option Addr) (c : Nat) (w : World) (hX : Hid (DfsIn w.heap.size w l a)) (hP : Hid (TabW w)) (hT : Hid (TabV w 0)) (hr : Hid (r = printL l)) :
    Calls Tryz.prog 9 #[.slice a l.length c] w fun e w' => e = .returned (.tuple #[.string r.1, .agg #[.int .i64 r.2.1, .int .i64 r.2.2]]) ∧ Below w.heap.size w w' := by
  have hr' := hr.out
  unfold printL at hr'
  by_cases h0 : (Sy.wrongL l).1 = 0
  · rw [if_neg (by simpa using h0)] at hr'
    have hz := wrongL_zero l h0
    have HW : Hid (Sy.wrongL l = (0, 0)) := Prod.ext h0 hz
    by_cases h1 : 6000 < (joinP l).size
    · rw [if_pos h1] at hr'
      subst hr'
      exact print_right l a c ⟨#[]⟩ 4 w hX HW hP hT (by have h2 : 6000 < (joinT (Sy.progT l)).size := h1; unfold Hid; rw [if_pos h2])
    · rw [if_neg h1] at hr'
      subst hr'
      exact print_right l a c (joinP l) 0 w hX HW hP hT (by have h2 : ¬ 6000 < (joinT (Sy.progT l)).size := h1; unfold Hid; rw [if_neg h2]; rfl)
  · rw [if_pos h0] at hr'
    subst hr'
    exact print_wrong l a c (Sy.wrongL l).1 (Sy.wrongL l).2 w hX rfl h0

theorem printL_right {l : List Sy.Df} (h : (printL l).2.1 = 0) : (Sy.wrongL l).1 = 0 ∧ (joinP l).size ≤ 6000 ∧ (printL l).1 = joinP l := by
  unfold printL at h ⊢
  by_cases h0 : (Sy.wrongL l).1 = 0
  · rw [if_neg (by simpa using h0)] at h ⊢
    by_cases h1 : 6000 < (joinP l).size
    · rw [if_pos h1] at h; simp at h
    · rw [if_neg h1]; exact ⟨h0, by omega, rfl⟩
  · rw [if_pos h0] at h; exact absurd h h0
theorem printL_much {l : List Sy.Df} (hw : (Sy.wrongL l).1 = 0) : (printL l).2.1 = 0 ∨ (printL l).2.1 = 4 := by
  unfold printL
  rw [if_neg (by simpa using hw)]
  split
  · exact .inr rfl
  · exact .inl rfl
theorem right_dfs {l : List Sy.Df} (hw : (Sy.wrongL l).1 = 0) : (∀ d ∈ l, Sy.DfOk d) ∧ l.length ≤ 30 := by
  have hn : l.length ≤ 30 := by
    unfold Sy.wrongL at hw
    split at hw
    · simp at hw
    · omega
  refine ⟨?_, hn⟩
  unfold Sy.wrongL at hw
  rw [if_neg (by omega)] at hw
  exact Sy.defs_ok hw Sy.dfW_nz
theorem join_small (l : List Sy.Df) (h : (joinP l).size ≤ 6000) : (joinP l).size ≤ maxLen := by unfold maxLen; omega

set_option maxRecDepth 100000 in
set_option maxHeartbeats 4000000 in
theorem turns_any (l : List Sy.Df) (a : Option Addr) (c : Nat) (s : ByteArray) (w : World) (hX : Hid (DfsIn w.heap.size w l a)) (hs : s.size ≤ maxLen) (hP : Hid (TabW w)) (hT : Hid (TabV w 0)) :
    Calls Tryz.prog 4 #[.slice a l.length c, .string s] w fun e w' => e = .returned (.bool true) ∧ Below w.heap.size w w' := by
  obtain ⟨rp, hrp⟩ : ∃ rp, rp = printL l := ⟨_, rfl⟩
  obtain ⟨rs, hrs⟩ : ∃ rs, rs = readL s := ⟨_, rfl⟩
  obtain ⟨rq, hrq⟩ : ∃ rq, rq = printL rs.1 := ⟨_, rfl⟩
  have HRp : Hid (rp = printL l) := hrp
  have HRs : Hid (rs = readL s) := hrs
  have HRq : Hid (rq = printL rs.1) := hrq
  obtain ⟨tp, ep, np⟩ := rp
  obtain ⟨ls, es, ns⟩ := rs
  obtain ⟨tq, eq, nq⟩ := rq
  -- the program
  have HA1 : Hid (ep = 0 → tp.size ≤ maxLen ∧ (l.map Sy.dfB, 0, 0) = readL tp ∧ (∀ d ∈ l, Sy.DfOk d) ∧ l.length ≤ 30) := by
    intro h0
    have e1 : (printL l).2.1 = 0 := by rw [← hrp]; exact h0
    obtain ⟨p1, p2, p3⟩ := printL_right e1
    have e2 : tp = joinP l := by rw [← p3, ← hrp]
    rw [e2]
    obtain ⟨d1, d2⟩ := right_dfs p1
    exact ⟨join_small l p2, (read_print p1 Sy.dfW_nz p2).symm, d1, d2⟩
  -- the text
  have HB1 : Hid (es = 0 → (Sy.wrongL ls).1 = 0 ∧ (eq = 0 ∨ eq = 4) ∧ (eq = 0 → tq.size ≤ maxLen ∧ (ls, 0, 0) = readL tq)) := by
    intro h0
    have e1 : (readL s).2.1 = 0 := by rw [← hrs]; exact h0
    obtain ⟨_, q, r1, r2⟩ := readL_right e1
    rw [← hrs] at r1 r2
    have hbare : ls.map Sy.dfB = ls := Rp.program_b q ls r1
    have e2 : printL ls = (tq, eq, nq) := hrq.symm
    refine ⟨r2, ?_, fun hq0 => ?_⟩
    · have := printL_much r2
      rw [e2] at this
      exact this
    · have e3 : (printL ls).2.1 = 0 := by rw [e2]; exact hq0
      obtain ⟨p1, p2, p3⟩ := printL_right e3
      have e4 : tq = joinP ls := by rw [← p3, e2]
      have e5 := read_print p1 Sy.dfW_nz p2
      rw [hbare] at e5
      rw [e4]
      exact ⟨join_small ls p2, e5.symm⟩
  clear hrp hrs hrq
  go_enter Tryz.func4, Tryz.ntmps4
  go_wp2_with fail
  refine (alive_any w hT.out).mono ?_
  rintro e w1 ⟨rfl, hb1⟩
  have HB1w := hideX hb1
  clear hb1
  go_wp2_with fail
  refine (print_in l (tp, ep, np) a c w1 (hideX ((hX.out.same (same_below HB1w.out)).wide HB1w.out.size)) (hP.out.below HB1w.out) (hT.out.keep HB1w.out hT.out.lt) HRp).mono ?_
  rintro e w2 ⟨rfl, hb2⟩
  have HB2w : Hid (Below w.heap.size w w2) := jn_step HB1w.out hb2
  clear hb2
  obtain ⟨W2, hW2⟩ : ∃ W2, w2.alloc (.cells #[.int .i64 ep, .int .i64 np] 25) = W2 := ⟨_, rfl⟩
  have HW2b : Hid (Below w.heap.size w W2) := by rw [← hW2]; exact jn_step HB2w.out (jn_one _ _)
  have hF2 : W2.heap[w2.heap.size]? = some (.cells #[.int .i64 ep, .int .i64 np] 25 (0, 0)) := by rw [← hW2]; exact heap_alloc_new _ _
  obtain ⟨f0, _⟩ := two_cell hF2
  clear hF2
  go_upto_if 22 with fail
  go_cut [] (fun wx => Hid (Below w.heap.size w wx))
  case first =>
    by_cases h0 : ep = 0
    · have n0 : (ep == 0) = true := by simpa using h0
      obtain ⟨ht, hrd, hdo, hd30⟩ := HA1.out h0
      have HRd := hideX hrd
      have HDo := hideX hdo
      obtain ⟨lb, hlb⟩ : ∃ lb, lb = l.map Sy.dfB := ⟨_, rfl⟩
      have HLB := hideX hlb
      rw [← hlb] at HRd
      clear h0 hrd hdo hlb
      go_wp2_with fail
      refine (read_in tp (lb, 0, 0) W2 ht (hT.out.keep HW2b.out hT.out.lt) HRd).mono ?_
      rintro e w3 ⟨a1, c1, rfl, hl1, hd1, hb3⟩
      have HD1 := hideX hd1
      have HB3w : Hid (Below w.heap.size w w3) := jn_step HW2b.out hb3
      clear hd1 hb3 f0
      obtain ⟨W3, hW3⟩ : ∃ W3, w3.alloc (.cells #[.int .i64 0, .int .i64 0] 25) = W3 := ⟨_, rfl⟩
      have HK3 : Hid (Below w3.heap.size w3 W3) := by rw [← hW3]; exact jn_one _ _
      have HW3b : Hid (Below w.heap.size w W3) := jn_step HB3w.out HK3.out
      have hF3 : W3.heap[w3.heap.size]? = some (.cells #[.int .i64 0, .int .i64 0] 25 (0, 0)) := by rw [← hW3]; exact heap_alloc_new _ _
      have HW3e := hideX hW3
      clear hF3 hW3
      go_wp2_with fail
      rw [HW3e.out]
      refine (bare_any w.heap.size l lb a c W3 HDo hd30 HW3b.out.size (hX.out.same (same_below HW3b.out)) HLB).mono ?_
      rintro e w4 ⟨a2, c2, rfl, hq4, hb4⟩
      have HB4w : Hid (Below w.heap.size w w4) := jn_step HW3b.out hb4
      have hll : lb.length ≤ 6000 := hl1
      have HD2 : Hid (DfsIn w4.heap.size w4 lb a2) := hq4.toIn (fun b h => h.2) hll
      have HD1' : Hid (DfsIn w4.heap.size w4 lb a1) := ((HD1.out.same (same_below HK3.out)).same (fun b o hb => same_below hb4 b o (by have := HK3.out.size; omega))).wide (by have := HK3.out.size; have := hb4.size; omega)
      clear hq4 hb4
      go_wp2_with fail
      refine (sameDefs_any w4.heap.size lb a1 a2 c1 c2 w4 (Nat.le_refl _) HD1' HD2).mono ?_
      rintro e w5 ⟨rfl, hb5⟩
      have HB5w : Hid (Below w.heap.size w w5) := jn_step HB4w.out hb5
      clear hb5
      go_wp2_with fail
      go_meet
      exact HB5w
    · have n0 : (ep == 0) = false := by simpa using h0
      clear h0
      go_wp2_with fail
      go_meet
      exact HW2b
  case rest =>
    have HWc : Hid (Below w.heap.size w wc) := hcut
    clear hcut f0 HA1 HRp
    go_wp2_with fail
    refine (read_in s (ls, es, ns) wc hs (hT.out.keep HWc.out hT.out.lt) HRs).mono ?_
    rintro e w6 ⟨a3, c3, rfl, hl3, hd3, hb6⟩
    have HD3 := hideX hd3
    have HB6w : Hid (Below w.heap.size w w6) := jn_step HWc.out hb6
    clear hd3 hb6
    obtain ⟨W6, hW6⟩ : ∃ W6, w6.alloc (.cells #[.int .i64 es, .int .i64 ns] 25) = W6 := ⟨_, rfl⟩
    have HK6 : Hid (Below w6.heap.size w6 W6) := by rw [← hW6]; exact jn_one _ _
    have HW6b : Hid (Below w.heap.size w W6) := jn_step HB6w.out HK6.out
    have hF6 : W6.heap[w6.heap.size]? = some (.cells #[.int .i64 es, .int .i64 ns] 25 (0, 0)) := by rw [← hW6]; exact heap_alloc_new _ _
    have HF6 := hideX hF6
    obtain ⟨f0, _⟩ := two_cell hF6
    clear hF6
    by_cases h0 : es = 0
    case neg =>
      have n0 : (es != 0) = true := by simpa using h0
      clear h0
      go_wp2
      go_ret
      exact ⟨rfl, HW6b.out⟩
    have n0 : (es != 0) = false := by simpa using h0
    obtain ⟨hw0, hq4, hq0⟩ := HB1.out h0
    have HQ4 := hideX hq4
    have HQ0 := hideX hq0
    have HW0 := hideX hw0
    clear h0 HB1 hq4 hq0 hw0 HRs
    have HD3a : Hid (DfsIn W6.heap.size W6 ls a3) := (HD3.out.same (same_below HK6.out)).wide HK6.out.size
    obtain ⟨we, hwe⟩ : ∃ we, we = Sy.wrongL ls := ⟨_, rfl⟩
    have hwz : we = (0, 0) := by rw [hwe]; exact Prod.ext HW0.out (wrongL_zero ls HW0.out)
    have HWr : Hid (Sy.wrongL ls = (0, 0)) := by rw [← hwz]; exact hwe.symm
    clear hwe hwz
    go_wp2_with fail
    refine (wrong_any ls a3 c3 W6 HD3a.out).mono ?_
    rintro e w7 ⟨rfl, hb7⟩
    rw [HWr.out]
    have HB7w : Hid (Below w.heap.size w w7) := jn_step HW6b.out hb7
    have HK7 : Hid (Below W6.heap.size W6 w7) := hb7
    have HD7 : Hid (DfsIn w7.heap.size w7 ls a3) := (HD3a.out.same (same_below hb7)).wide hb7.size
    have HF7 : Hid (w7.heap[w6.heap.size]? = some (.cells #[.int .i64 es, .int .i64 ns] 25 (0, 0))) := (hb7.block _ (lt_of_block HF6.out)).trans HF6.out
    have hlt6 : w6.heap.size < w7.heap.size := lt_of_block HF7.out
    have hfld := flt_field
    clear hb7 f0
    go_wp2_with fail
    refine (print_in ls (tq, eq, nq) a3 c3 w7 HD7 (hP.out.below HB7w.out) (hT.out.keep HB7w.out hT.out.lt) HRq).mono ?_
    rintro e w8 ⟨rfl, hb8⟩
    have HB8w : Hid (Below w.heap.size w w8) := jn_step HB7w.out hb8
    have HF8 : Hid (w8.heap[w6.heap.size]? = some (.cells #[.int .i64 es, .int .i64 ns] 25 (0, 0))) := (hb8.block _ hlt6).trans HF7.out
    have HS8 : Hid (Go.Proofs.YtlnikpcoejpknaaGreatDoor.Same w6.heap.size w6 w8) := fun b o hb => ((same_below hb8) b o (by omega)).trans (((same_below HK7.out) b o (by have := HK6.out.size; omega)).trans (same_below HK6.out b o hb))
    have hw6 : w.heap.size ≤ w6.heap.size := HB6w.out.size
    obtain ⟨p0, p1, p2, p3⟩ := two_cell HF8.out
    obtain ⟨V8, hV8⟩ : ∃ V8, (w8.setCell ⟨w6.heap.size, 0, none⟩ (.int .i64 eq)).setCell ⟨w6.heap.size, 1, none⟩ (.int .i64 nq) = V8 := ⟨_, rfl⟩
    have HG8 : Hid (V8.heap[w6.heap.size]? = some (.cells #[.int .i64 eq, .int .i64 nq] 25 (0, 0))) := by rw [← hV8]; exact flt_set HF8.out
    have HV8b : Hid (Below w.heap.size w V8) := by rw [← hV8]; exact (HB8w.out.setCell (p := ⟨w6.heap.size, 0, none⟩) hw6 _).setCell (p := ⟨w6.heap.size, 1, none⟩) hw6 _
    have HS9 : Hid (Go.Proofs.YtlnikpcoejpknaaGreatDoor.Same w6.heap.size w6 V8) := fun b o hb => by
      rw [← hV8]
      exact (World.cell?_of_block (w := w8) (a := ⟨b, o, none⟩) ((far_two (b := b) (P := w6.heap.size) (by omega)).trans (far_two (b := b) (P := w6.heap.size) (by omega)))).trans (HS8.out b o hb)
    have hz8 : V8.heap.size = w8.heap.size := by rw [← hV8]; simp only [World.setCell_size]
    have hz68 : w6.heap.size < V8.heap.size := lt_of_block HG8.out
    obtain ⟨q0, q1, q2, q3⟩ := two_cell HG8.out
    clear hb8 hz8
    by_cases h4 : eq = 0
    case neg =>
      have n4 : (eq != 0) = true := by simpa using h4
      have n5 : (eq == 4) = true := by
        rcases HQ4.out with h | h
        · exact absurd h h4
        · simp [h]
      clear h4
      go_wp2
      go_ret
      exact ⟨rfl, HV8b.out⟩
    have n4 : (eq != 0) = false := by simpa using h4
    obtain ⟨htq, hrd⟩ := HQ0.out h4
    have HRd := hideX hrd
    clear h4 hrd HQ0 HQ4
    go_wp2_with fail
    refine (read_q tq (ls, 0, 0) V8 htq (hT.out.keep HV8b.out hT.out.lt) HRd).mono ?_
    rintro e w9 ⟨a4, c4, rfl, hl4, hd4, hb9⟩
    have HB9w : Hid (Below w.heap.size w w9) := jn_step HV8b.out hb9
    have HF9 : Hid (w9.heap[w6.heap.size]? = some (.cells #[.int .i64 eq, .int .i64 nq] 25 (0, 0))) := (hb9.block _ hz68).trans HG8.out
    have HS10 : Hid (Go.Proofs.YtlnikpcoejpknaaGreatDoor.Same w6.heap.size w6 w9) := fun b o hb => ((same_below hb9) b o (by omega)).trans (HS9.out b o hb)
    have HD4 := hideX hd4
    obtain ⟨x0, x1, x2, x3⟩ := two_cell HF9.out
    obtain ⟨V9, hV9⟩ : ∃ V9, (w9.setCell ⟨w6.heap.size, 0, none⟩ (.int .i64 0)).setCell ⟨w6.heap.size, 1, none⟩ (.int .i64 0) = V9 := ⟨_, rfl⟩
    have HG9 : Hid (V9.heap[w6.heap.size]? = some (.cells #[.int .i64 0, .int .i64 0] 25 (0, 0))) := by rw [← hV9]; exact flt_set HF9.out
    have HV9b : Hid (Below w.heap.size w V9) := by rw [← hV9]; exact (HB9w.out.setCell (p := ⟨w6.heap.size, 0, none⟩) hw6 _).setCell (p := ⟨w6.heap.size, 1, none⟩) hw6 _
    have hz9 : V9.heap.size = w9.heap.size := by rw [← hV9]; simp only [World.setCell_size]
    have HM1 : Hid (DfsIn V9.heap.size V9 ls a3) := (HD3.out.same (fun b o hb => by
      rw [← hV9]
      exact (World.cell?_of_block (w := w9) (a := ⟨b, o, none⟩) ((far_two (b := b) (P := w6.heap.size) (by omega)).trans (far_two (b := b) (P := w6.heap.size) (by omega)))).trans (HS10.out b o hb))).wide (by rw [hz9]; have := hb9.size; omega)
    have HM2 : Hid (DfsIn V9.heap.size V9 ls a4) := by
      refine DfsQ.toIn (Q := Mad V8 w9) (fun b h => by rw [hz9]; exact h.2) ?_ hl4
      exact hd4.keep (fun b h => ⟨h, by rw [← hV9]; exact (far_two (by have := h.1; omega)).trans (far_two (by have := h.1; omega))⟩)
    obtain ⟨y0, y1, y2, y3⟩ := two_cell HG9.out
    clear hb9 hd4 q0 q1 q2 q3 p0 p1 p2 p3
    go_wp2_with fail
    refine (sameDefs_any V9.heap.size ls a3 a4 c3 c4 V9 (Nat.le_refl _) HM1 HM2).mono ?_
    rintro e w10 ⟨rfl, hb10⟩
    have HB10 : Hid (Below w.heap.size w w10) := jn_step HV9b.out hb10
    clear hb10
    go_wp2
    go_ret
    exact ⟨rfl, HB10.out⟩

namespace synTurns
open Go.ChangeShapes Go.WideShapes Go.ChangeAt Go.RowKit
open Go.ChangeMaps (open_string)

theorem own : ownKnob Tryz.prog.godebug = none := by kernel_rfl
theorem kids : Kids Tryz.prog (· < Tryz.prog.types.size) := kids_rows (by kernel_rfl) (by kernel_rfl)
theorem full : ∀ t e, t < Tryz.prog.types.size → Tryz.prog.underlying t = some (.slice e) → 0 < Tryz.prog.cellsOf e := slices_full_of Tryz.prog (by kernel_rfl)

/-- What reads in a world reads the same in a later one that leaves the old blocks alone. -/
theorem again {H : Type} {enc : TypeId × Value → H} {W W' : World} {sp : Nat → Bool} (hb : Below W.heap.size W W') : ∀ {ts : List TypeId} {vs : List Value} {ds : List (DataW H)} {ps : List MemPlace}, DataW.TrodAll enc Tryz.prog W 0 sp true ts vs ds ps → (∀ p ∈ ps, p.block < W.heap.size) → DataW.TrodAll enc Tryz.prog W' 0 sp true ts vs ds ps
  | [], [], [], _, h, _ => h
  | _ :: _, _ :: _, _ :: _, _, ⟨p, q, ⟨n, h1⟩, h2, e⟩, hs => ⟨p, q, ⟨n, DataW.trod_carry n _ _ _ h1 (fun x hx => hb.same (hs x (by rw [e]; exact List.mem_append_left _ hx)))⟩, again hb h2 (fun x hx => hs x (by rw [e]; exact List.mem_append_right _ hx)), e⟩

set_option maxRecDepth 100000 in
/-- WHAT THE WALKS GIVE, FOR EVERY ARGUMENT AND EVERY WORLD THAT HOLDS THE TABLES. -/
theorem contract (H : Type) (enc : TypeId × Value → H) (W : World) (base : Nat) (args : Array Value) (ds gs : List (DataW H)) (before : List MemPlace)
    (hval : ∀ (j : Nat) t v, Tryz.f4.params[j]? = some t → args[j]? = some v → Value.okWide Tryz.prog W .any base t v)
    (hW : DataW.Whole enc Tryz.prog Tryz.f4.params.toList Rows.synTurnsSpec.vars false W args.toList ds gs before)
    (hsz : (DataW.weightsEach Tryz.prog (Tryz.f4.params.toList ++ (OpenSpec.ofChange Rows.synTurnsSpec).bare.plain.varTypes Tryz.prog) (ds ++ gs)).all (· ≤ reachBytes) = true) (hL : laidMetH Tryz.prog Rows.synTurnsRow.laid W) :
    Calls Tryz.prog 4 args W fun e W' => ∃ v, e = .returned v ∧ Rows.synTurnsSpec.post enc Tryz.prog Tryz.f4 false true false false W args v W' := by
  have hW' := hW
  have hlt := hW.lt
  obtain ⟨p, q, hA0, hV, rfl, hfz, hnd⟩ := hW
  have hA : DataW.TrodAll enc Tryz.prog W 0 (fun _ => true) true Tryz.f4.params.toList args.toList ds p := hA0
  have hAk := hA
  rw [Tryz.params4] at hA hval hsz
  obtain ⟨v0, vs0, d0, ds0, p0, q0, hargs, rfl, rfl, h0, r0⟩ := trodAll_cons hA
  obtain ⟨v1, vs1, d1, ds1, p1, q1, rfl, rfl, rfl, h1, r1⟩ := trodAll_cons r0
  obtain ⟨rfl, rfl, rfl⟩ := trodAll_nil r1
  obtain rfl : args = #[v0, v1] := Array.toList_inj.1 hargs
  obtain ⟨rfl, rfl⟩ := trodVars_none hV
  obtain ⟨a0, len, cap, rfl⟩ := okWide_slice Tryz.underlying22 (hval 0 22 v0 rfl rfl)
  obtain ⟨s1, rfl, rfl, rfl, z1⟩ := open_string Tryz.underlying9 (hval 1 9 v1 rfl rfl) h1
  obtain ⟨fuel, hf⟩ := h0
  obtain ⟨l, a, c, hcs, hin⟩ := defs_open hf
  simp [Value.cells] at hcs
  obtain ⟨rfl, rfl, rfl⟩ := hcs
  obtain ⟨hT, hP⟩ := of_laidT hL
  simp only [List.append_nil] at hW'
  refine (turns_any l a0 cap s1 W hin z1 hP hT).mono fun e W' ⟨he, bel⟩ => ?_
  subst he
  have hargs2 := DataW.TrodAll.respare (spare' := fun b => decide (b < W.heap.size)) kids full (by rw [Tryz.params4]; decide) hAk (fun x hx => by simpa using hlt x (by simpa using hx))
  exact ⟨_, rfl, _, _, _, [], _, [], hW', (trodAll_cons_mk (shut_bool Tryz.underlying4 _) trodAll_mk0), again bel hargs2 (fun x hx => hlt x (by simpa using hx)), rfl, bel.frame _, fun h => by cases h⟩

/-- The cells of a table of numbers. -/
def numCells (d : DataW Unit) : Array Value :=
  match d with
  | .agg l => (l.map fun d => match d with
    | .lit (.int k n) => Value.int k n
    | _ => .bool false).toArray
  | _ => #[]

def putCells (cs : Array Value) (o : Obj) : Obj :=
  match o with
  | .cells _ t frozen => .cells cs t frozen
  | o => o

/-- A WORLD FOR THE WITNESS: the settled one, the tables holding what their initialisers lay. -/
noncomputable def laidWorld (os : Os) : World :=
  { World.holding Tryz.prog os ⟨#[], #[], []⟩ with heap := ((((World.holding Tryz.prog os ⟨#[], #[], []⟩).heap.modify 0 (putCells tableCells.toArray)).modify 1 (putCells (numCells Rows.laid_internal_strconv_uint64pow10))).modify 3 (putCells (numCells Rows.laid_math_bits_deBruijn32tab))).modify 4 (putCells (numCells Rows.laid_math_bits_deBruijn64tab)) }
theorem laid_met (os : Os) : laidMet Tryz.prog Rows.synTurnsRow.laid ((laidWorld os).forCall (fun _ _ => 0) ⟨#[], #[.slice none 0 0, .string ByteArray.empty], []⟩).memory :=
  laidMet_of_run' 8 (by kernel_rfl) (by kernel_rfl)
theorem reads (os : Os) {H : Type} (enc : TypeId × Value → H) : ∃ places, DataW.whole enc Tryz.prog ((laidWorld os).forCall (fun _ _ => 0) ⟨#[], #[.slice none 0 0, .string ByteArray.empty], []⟩).memory Tryz.f4.params.toList Rows.synTurnsSpec.vars false #[Value.slice none 0 0, Value.string ByteArray.empty].toList 8 = some ([.nil, .lit (.string [])], [], places) :=
  ⟨[], by kernel_rfl⟩

set_option maxRecDepth 100000 in
theorem lifted (os : Os) (started : os.Started) (H : Type) (enc : TypeId × Value → H) (F : Stop.Interp) :
    ReturnsInHanded {} Tryz.checked os 4 .any ((OpenSpec.ofChange Rows.synTurnsSpec).preRow enc Tryz.prog Tryz.f4 Rows.synTurnsRow.domain false Rows.synTurnsRow.laid) (((OpenSpec.ofChange Rows.synTurnsSpec).at F).post enc Tryz.prog Tryz.f4 false true false false) := by
  obtain ⟨places, hx⟩ := reads os enc
  refine returnsInHanded_of_row (C := Tryz.checked) (s := OpenSpec.ofChange Rows.synTurnsSpec) own started (by kernel_rfl) Tryz.func4
    (witness_row_at (enc := enc) (C := Tryz.checked) false (laidWorld os) #[.slice none 0 0, .string ByteArray.empty] rfl (by kernel_rfl) (by kernel_rfl) (by kernel_rfl)
      (OpenSpec.preRow_of_cond 8 hx (by kernel_rfl) (fun k hk => by cases hk) (by kernel_rfl) (laid_met os))) ?_
  intro W base args ds gs before hval hW _ _ hsz hL _ _
  exact contract H enc W base args ds gs before hval hW hsz hL

theorem said : Rows.SynTurnsSaid :=
  OpenClaim.holds_of_cond 4 Tryz.f4 rfl rfl rfl rfl rfl rfl rfl ⟨rfl, rfl, rfl, rfl, rfl⟩ rfl rfl rfl rfl rfl (by kernel_rfl) Tryz.func4 (by kernel_rfl)
    (of_decide_eq_true (by kernel_rfl)) (by unfold Func.isWrapper; first | (rw [if_pos (by decide +kernel)]; kernel_rfl) | (rw [if_neg (by decide +kernel)]; exact ⟨rfl, rfl⟩))
    (fun os started H enc _ F => by rw [OpenClaim.pre_eq_preRow]; exact lifted os started H enc F)

/-- No parameter wants a stand-in. -/
theorem plain (f : FuncId) (fn : Func) (hf : Tryz.pinned.checked.prog.funcNamed "yieldshape/yieldlaw2.SynTurns" = some f) (hfn : Tryz.pinned.checked.prog.funcs[f]? = some fn) :
    true = Tryz.pinned.checked.prog.looks [] ∧ ∀ (j : Nat) t, fn.params[j]? = some t → Tryz.pinned.checked.prog.wantsStandIn t = false := by
  obtain rfl : f = 4 := Option.some.inj ((show Tryz.prog.funcNamed "yieldshape/yieldlaw2.SynTurns" = some 4 by kernel_rfl).symm.trans hf) |>.symm
  obtain rfl : fn = Tryz.f4 := (Option.some.inj (Tryz.func4.symm.trans hfn)).symm
  refine ⟨by kernel_rfl, fun j t ht => ?_⟩
  rw [Tryz.params4] at ht
  have h2 : t = 22 ∨ t = 9 := by simpa using Array.mem_of_getElem? ht
  rcases h2 with rfl | rfl
  · exact (show Tryz.prog.wantsStandIn 22 = false by kernel_rfl)
  · exact (show Tryz.prog.wantsStandIn 9 = false by kernel_rfl)

end synTurns

/-- THE CARD. -/
theorem synTurns_card : Rows.SynTurnsCardSaid :=
  Claim7.holds_tied_plain_at .later [] _ _ _ _ synTurns.said (fun _ h => by cases h) (by kernel_rfl) (fun _ h => by cases h) synTurns_row_tie rfl ⟨rfl, rfl⟩ (by kernel_rfl) rfl synTurns.plain (by kernel_rfl)
#print axioms synTurns_card
end Go.Proofs.YtlnikpcoejpknaaGreatDoor

