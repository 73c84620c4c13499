/- The walk of the document's Tokens. -/
import Derived.Test.YtfmkhdncbdkpoaaR5
namespace Go.Proofs.Ytfmkhdncbdkpoaa
open Go.RowKit

set_option maxRecDepth 100000 in
set_option maxHeartbeats 400000 in
theorem refTokens_much (s : ByteArray) (w : World) (hs : s.size ≤ maxLen) (hm : 6000 < s.size) :
    Calls Try.prog 7 #[.string s] w fun e w' => e = .returned (.tuple #[.slice none 0 0, .agg #[.int .i64 4, .int .i64 0]]) ∧ Below w.heap.size w w' := by
  unfold maxLen at hs
  go_enter Try.func7, Try.ntmps7
  go_wp2
  refine bodyPost_ret (v := .tuple #[.slice none 0 0, .agg #[.int .i64 4, .int .i64 0]]) (by simp [results, Try.results7, go_sem]) rfl ⟨rfl, ?_⟩
  exact (Below.refl _ w).alloc (Nat.le_refl _) _

theorem class_same (c : UInt8) (w : World) : Calls Try.prog 13 #[.int .u8 (c.toNat : Int)] w fun e w' => e = .returned (.int .i64 (Lx.cls c : Nat)) ∧ w = w' :=
  (class_any c w).mono fun _ _ h => ⟨h.1, h.2.symm⟩

theorem RW.below {w X Y : World} {v : Value} {l : List Lx.Tk} (h : RW w v l X) (hb : Below X.heap.size X Y) : RW w v l Y :=
  ⟨own_below h.1 hb, h.2.1.trans (hb.mono (Nat.le_of_lt h.lt)), (hb.block _ h.lt).trans h.2.2⟩

theorem two_cases {c : UInt8} (h : Lx.two c = true) : c.toNat = 61 ∨ c.toNat = 33 ∨ c.toNat = 60 ∨ c.toNat = 62 := by
  have h2 := List.contains_iff_mem.1 h
  simp only [List.mem_cons, List.not_mem_nil, or_false] at h2
  rcases h2 with rfl | rfl | rfl | rfl <;> decide

theorem two_not {c : UInt8} (h : Lx.two c = false) : c.toNat ≠ 61 ∧ c.toNat ≠ 33 ∧ c.toNat ≠ 60 ∧ c.toNat ≠ 62 := by
  have key : ∀ n : UInt8, n ∈ [61, 33, 60, 62] → c.toNat ≠ n.toNat := by
    intro n hn e
    have e2 : c = n := UInt8.toNat_inj.1 e
    have h3 : Lx.two c = true := by rw [e2]; exact List.contains_iff_mem.2 hn
    rw [h] at h3; cases h3
  exact ⟨key 61 (by decide), key 33 (by decide), key 60 (by decide), key 62 (by decide)⟩

theorem one_33 {c : UInt8} (h : c.toNat = 33) : Lx.one c = false := by
  have : c = 33 := UInt8.toNat_inj.1 h
  rw [this]; decide

theorem refRel_start (s : ByteArray) (w : World) : RefRel s w (.slice none 0 0) (.int .i64 0) (w.alloc (.cells #[.int .i64 0, .int .i64 0] 25)) :=
  ⟨0, s.size, [], rfl, Nat.zero_le _, by omega, by simp, ⟨World.ownsRow_nil _ _ _ _, (Below.refl _ w).alloc (Nat.le_refl _) _, heap_alloc_new w _⟩, by simp, rfl⟩

set_option maxRecDepth 100000 in
set_option maxHeartbeats 4000000 in
theorem refTokens_few (s : ByteArray) (w : World) (hm : s.size ≤ 6000) :
    Calls Try.prog 7 #[.string s] w fun e w' => ∃ v, e = .returned (.tuple #[v, .agg #[.int .i64 (Lx.lexB s).2.1, .int .i64 (Lx.lexB s).2.2]]) ∧ w'.ownsRow w.heap.size 32 4 v (Lx.lexB s).1.length (Lx.cellsOf (Lx.lexB s).1) ∧ Below w.heap.size w w' := by
  have hdec : decide ((6000 : Int) < (s.size : Int)) = false := by simp; omega
  obtain ⟨i0, hi, hz0, hz1, hz2⟩ := info_parts Try.info32
  go_enter Try.func7, Try.ntmps7
  go_wp2
  go_loopw [4, 5] (fun v i wr => RefRel s w v i wr) (fun _ i _ => s.size - (intOf i).toNat)
  case atStart => exact refRel_start s w
  case round =>
    obtain ⟨a, f, done, rfl, ha, hf, hd, hrw, hlx⟩ := hrel
    have HRW : Hid (RW w u4 done wr) := hrw
    have HLX : Hid (LexEq s done (f + 1) a) := hlx
    obtain ⟨t0, t1, y0, y1⟩ := two_cell hrw.2.2
    have hwr : w.heap.size < wr.heap.size := hrw.lt
    clear hrw hlx
    by_cases hend : a < s.size
    · have hcb := cls_le s[a]
      obtain ⟨C, hC⟩ : ∃ C, Lx.cls s[a] = C := ⟨_, rfl⟩
      have HCC : Hid (Lx.cls s[a] = C) := hC
      have hclass : ∀ w, Calls Try.prog 13 #[.int .u8 (s[a].toNat : Int)] w fun e w' => e = .returned (.int .i64 (C : Nat)) ∧ w = w' := by
        intro w; rw [← hC]; exact class_same _ _
      have HCL : Hid (∀ w, Calls Try.prog 13 #[.int .u8 (s[a].toNat : Int)] w fun e w' => e = .returned (.int .i64 (C : Nat)) ∧ w = w') := hclass
      rw [hC] at hcb
      clear hC hclass
      rcases (show C = 3 ∨ C = 4 ∨ C = 1 ∨ C = 2 ∨ C = 5 by omega) with rfl | rfl | rfl | rfl | rfl
      · have hp := place_blank hend (cls_3 HCC.out)
        have HL2 : Hid (LexEq s done (f + 1) (a + 1)) := lexEq_skip HLX.out hp
        clear hp
        go_wp2_with fail
        refine (HCL.out _).mono ?_
        rintro e w1 ⟨rfl, rfl⟩
        go_wp2
        go_roundw
        case rel => exact ⟨a + 1, f, done, by go_num, by omega, by omega, by omega, HRW.out, HL2.out⟩
        case measure => simp [intOf]; omega
      · have h35 := cls_4 HCC.out
        have H35 : Hid (∀ h : a < s.size, s[a].toNat = 35) := fun _ => h35
        clear h35
        go_wp2_with fail
        refine (HCL.out _).mono ?_
        rintro e w1 ⟨rfl, rfl⟩
        go_wp2
        go_loop [5] (fun i => ∃ k : Nat, k ≤ s.size ∧ i = .int .i64 k ∧ Hid (RemInv s a k)) (fun i => s.size - (intOf i).toNat)
        case atStart => exact ⟨a, by omega, rfl, remInv_start s a⟩
        case round =>
          obtain ⟨k, hk, rfl, HI⟩ := hrel
          by_cases hk1 : k < s.size
          · by_cases h10 : s[k].toNat = 10
            · have e1 : ((s[k].toNat : Int) != 10) = false := by simp; omega
              have hp := remInv_end HI.out H35.out (fun _ => h10)
              have HL2 : Hid (LexEq s done (f + 1) k) := lexEq_skip HLX.out hp
              have hak : a < k := by
                have := HI.out.1
                rcases Nat.lt_or_ge a k with h | h
                · exact h
                · obtain rfl : a = k := by omega
                  have := H35.out hk1; omega
              clear h10 hp
              go_wp2
              go_roundw
              case rel => exact ⟨k, f, done, rfl, hk, by omega, by omega, HRW.out, HL2.out⟩
              case measure => simp [intOf]; omega
            · have e1 : ((s[k].toNat : Int) != 10) = true := by simp; omega
              have HI2 : Hid (RemInv s a (k + 1)) := remInv_next HI.out hk1 H35.out h10
              clear h10
              go_wp2
              go_round
              case rel => exact ⟨k + 1, by omega, by go_num, HI2⟩
              case measure => simp [intOf]; omega
          · have hp := remInv_end HI.out H35.out (fun h => absurd h hk1)
            have HL2 : Hid (LexEq s done (f + 1) k) := lexEq_skip HLX.out hp
            clear hp
            go_wp2
            go_roundw
            case rel => exact ⟨k, f, done, rfl, hk, by omega, by omega, HRW.out, HL2.out⟩
            case measure => simp [intOf]; omega
      · have hl := cls_1 HCC.out
        have HL : Hid (Lx.isLet s[a] = true) := hl
        have hp := place_tok hend (Lx.blk_f (by have := of_decide_eq_true hl; omega)) (by have := of_decide_eq_true hl; omega)
        have HP : Hid (Lx.place s a = a) := hp
        clear hl hp
        go_wp2_with fail
        refine (HCL.out _).mono ?_
        rintro e w1 ⟨rfl, rfl⟩
        go_wp2
        go_loop [5] (fun i => ∃ m : Nat, a + m ≤ s.size ∧ i = .int .i64 ((a + m : Nat) : Int) ∧ Hid (((s.data.toList.drop a).take m).all Lx.isWrd = true)) (fun i => s.size - (intOf i).toNat)
        case atStart => exact ⟨0, by omega, by go_num, by unfold Hid; simp⟩
        case round =>
          obtain ⟨m, hm1, rfl, HI⟩ := hrel
          by_cases hk1 : a + m < s.size
          · by_cases hwd : Lx.isWrd s[a + m] = true
            · have hc2 : Lx.cls s[a + m] ≤ 2 := (cls_wrd _).1.2 hwd
              have HI2 : Hid (((s.data.toList.drop a).take (m + 1)).all Lx.isWrd = true) := by unfold Hid; rw [drop_take_snoc s a m hk1]; exact Lx.all_snoc _ _ _ HI.out hwd
              clear hwd
              go_wp2_with fail
              refine (class_same _ _).mono ?_
              rintro e w1 ⟨rfl, rfl⟩
              go_wp2
              go_round
              case rel => exact ⟨m + 1, by omega, by go_num, HI2⟩
              case measure => simp [intOf]; omega
            · have hc2 : 3 ≤ Lx.cls s[a + m] := by
                rcases Nat.lt_or_ge (Lx.cls s[a + m]) 3 with h | h
                · exact absurd ((cls_wrd _).1.1 (by omega)) hwd
                · exact h
              have hsp := span_from Lx.isWrd s a m HI.out hm1 (fun _ => by simpa using hwd)
              have hF := firstL_let hend HL.out hsp
              have HL2 : Hid (LexEq s (done ++ [⟨1, s.extract a (a + m), 0, a⟩]) f (a + m)) := lexEq_tok HLX.out HP.out hend hF
              have hmpos : 0 < m := (Lx.firstL_pos hF).1
              clear hwd hsp hF
              have HW3 : Hid ((wr.alloc (.cells #[.int .i64 1, .string (s.extract a (a + m)), .int .i64 0, .int .i64 a] 32)).ownsRow (w.heap.size + 1) 32 4 u4 done.length (Lx.cellsOf done)) := (HRW.out.alloc _).1
              have HN3 : Hid (∀ j u, ([.int .i64 1, .string (s.extract a (a + m)), .int .i64 0, .int .i64 a] : List Value)[j]? = some u → (wr.alloc (.cells #[.int .i64 1, .string (s.extract a (a + m)), .int .i64 0, .int .i64 a] 32)).cell? ((⟨wr.heap.size, 0, none⟩ : Addr).add j) = some u) := World.news_of_block (heap_alloc_new wr (.cells #[.int .i64 1, .string (s.extract a (a + m)), .int .i64 0, .int .i64 a] 32))
              go_wp2_with fail
              refine (class_same _ _).mono ?_
              rintro e w1 ⟨rfl, rfl⟩
              go_wp2_with (at_builtin; refine wpList_append_own _ rfl _ _ 22 rfl (w.heap.size + 1) 32 i0 _ 4 40 Try.underlying22 hi hz0 hz1 hz2 rfl (by decide) _ _ _ rfl HW3.out ⟨wr.heap.size, 0, none⟩ 1 1 [.int .i64 1, .string (s.extract a (a + m)), .int .i64 0, .int .i64 a] rfl rfl HN3.out (one_cells 1 0 a _) (by unfold maxLen; omega) (by omega) (by simp; omega) ?_)
              intro v' w3 hown' hgrow _
              have HO3 : Hid (w3.ownsRow (w.heap.size + 1) 32 4 v' (done.length + 1) (Lx.cellsOf done ++ [.int .i64 1, .string (s.extract a (a + m)), .int .i64 0, .int .i64 a])) := hown'
              clear hown'
              go_wp2
              go_roundw
              case rel => exact refRel_next hd hmpos hm1 hf HRW.out HO3.out hgrow HL2.out rfl
              case measure => simp [intOf]; omega
          · have hsp := span_from Lx.isWrd s a m HI.out hm1 (fun h => absurd h hk1)
            have hF := firstL_let hend HL.out hsp
            have HL2 : Hid (LexEq s (done ++ [⟨1, s.extract a (a + m), 0, a⟩]) f (a + m)) := lexEq_tok HLX.out HP.out hend hF
            have hmpos : 0 < m := (Lx.firstL_pos hF).1
            clear hsp hF
            have HW3 : Hid ((wr.alloc (.cells #[.int .i64 1, .string (s.extract a (a + m)), .int .i64 0, .int .i64 a] 32)).ownsRow (w.heap.size + 1) 32 4 u4 done.length (Lx.cellsOf done)) := (HRW.out.alloc _).1
            have HN3 : Hid (∀ j u, ([.int .i64 1, .string (s.extract a (a + m)), .int .i64 0, .int .i64 a] : List Value)[j]? = some u → (wr.alloc (.cells #[.int .i64 1, .string (s.extract a (a + m)), .int .i64 0, .int .i64 a] 32)).cell? ((⟨wr.heap.size, 0, none⟩ : Addr).add j) = some u) := World.news_of_block (heap_alloc_new wr (.cells #[.int .i64 1, .string (s.extract a (a + m)), .int .i64 0, .int .i64 a] 32))
            go_wp2_with (at_builtin; refine wpList_append_own _ rfl _ _ 22 rfl (w.heap.size + 1) 32 i0 _ 4 40 Try.underlying22 hi hz0 hz1 hz2 rfl (by decide) _ _ _ rfl HW3.out ⟨wr.heap.size, 0, none⟩ 1 1 [.int .i64 1, .string (s.extract a (a + m)), .int .i64 0, .int .i64 a] rfl rfl HN3.out (one_cells 1 0 a _) (by unfold maxLen; omega) (by omega) (by simp; omega) ?_)
            intro v' w3 hown' hgrow _
            have HO3 : Hid (w3.ownsRow (w.heap.size + 1) 32 4 v' (done.length + 1) (Lx.cellsOf done ++ [.int .i64 1, .string (s.extract a (a + m)), .int .i64 0, .int .i64 a])) := hown'
            clear hown'
            go_wp2
            go_roundw
            case rel => exact refRel_next hd hmpos hm1 hf HRW.out HO3.out hgrow HL2.out rfl
            case measure => simp [intOf]; omega
      · obtain ⟨hl, hdg⟩ := cls_2 HCC.out
        have HL : Hid (Lx.isLet s[a] = false) := hl
        have HD0 : Hid (Lx.isDig s[a] = true) := hdg
        have hp := place_tok hend (Lx.blk_f (by have := of_decide_eq_true hdg; omega)) (by have := of_decide_eq_true hdg; omega)
        have HP : Hid (Lx.place s a = a) := hp
        clear hl hp hdg
        go_wp2_with fail
        refine (HCL.out _).mono ?_
        rintro e w1 ⟨rfl, rfl⟩
        go_wp2
        go_loop [5, 7] (fun i n => ∃ m N : Nat, a + m ≤ s.size ∧ i = .int .i64 ((a + m : Nat) : Int) ∧ n = .int .i64 (N : Int) ∧ Hid (N = Lx.numL ((s.data.toList.drop a).take (min m 15))) ∧ Hid (((s.data.toList.drop a).take m).all Lx.isDig = true)) (fun i _ => s.size - (intOf i).toNat)
        case atStart => exact ⟨0, 0, by omega, by go_num, rfl, by unfold Hid; simp [Lx.numL], by unfold Hid; simp⟩
        case round =>
          obtain ⟨m, N, hm1, rfl, rfl, HN, HI⟩ := hrel
          have hNb : N ≤ 1000000000000000 := by
            rw [HN.out]
            refine num_from_le (by omega) ?_
            have h := HI.out
            have e : (s.data.toList.drop a).take (min m 15) = ((s.data.toList.drop a).take m).take 15 := by rw [List.take_take, Nat.min_comm]
            rw [e]
            exact List.all_eq_true.2 (fun c hc => List.all_eq_true.1 h c (List.mem_of_mem_take hc))
          by_cases hk1 : a + m < s.size
          · by_cases hwd : Lx.isDig s[a + m] = true
            · have hc2 : Lx.cls s[a + m] = 2 := (cls_wrd _).2.2 hwd
              have HI2 : Hid (((s.data.toList.drop a).take (m + 1)).all Lx.isDig = true) := by unfold Hid; rw [drop_take_snoc s a m hk1]; exact Lx.all_snoc _ _ _ HI.out hwd
              have hdb := of_decide_eq_true hwd
              have HC2 : Hid (Lx.cls s[a + m] = 2) := hc2
              have e2 : (((Lx.cls s[a + m] : Nat) : Int) == 2) = true := by simp; omega
              clear hwd hc2
              by_cases h15 : m < 15
              · have HN2 : Hid (N * 10 + (s[a + m].toNat - 48) = Lx.numL ((s.data.toList.drop a).take (min (m + 1) 15))) := by
                  unfold Hid
                  have e1 : min (m + 1) 15 = m + 1 := by omega
                  have e2 : min m 15 = m := by omega
                  rw [e1, drop_take_snoc s a m hk1, Lx.numL_snoc, HN.out, e2]
                go_wp2_with fail
                refine (class_same _ _).mono ?_
                rintro e w1 ⟨rfl, rfl⟩
                go_wp2
                go_round
                case rel => exact ⟨m + 1, N * 10 + (s[a + m].toNat - 48), by omega, by go_num, by go_num, HN2, HI2⟩
                case measure => simp [intOf]; omega
              · have HN2 : Hid (N = Lx.numL ((s.data.toList.drop a).take (min (m + 1) 15))) := by
                  unfold Hid
                  have e1 : min (m + 1) 15 = min m 15 := by omega
                  rw [e1]; exact HN.out
                go_wp2_with fail
                refine (class_same _ _).mono ?_
                rintro e w1 ⟨rfl, rfl⟩
                go_wp2
                go_round
                case rel => exact ⟨m + 1, N, by omega, by go_num, rfl, HN2, HI2⟩
                case measure => simp [intOf]; omega
            · have hc2 : ¬ Lx.cls s[a + m] = 2 := fun h => hwd ((cls_wrd _).2.1 h)
              have e2 : (((Lx.cls s[a + m] : Nat) : Int) == 2) = false := by simp; omega
              have hsp := span_from Lx.isDig s a m HI.out hm1 (fun _ => by simpa using hwd)
              clear hwd hc2
              by_cases h15 : 15 < m
              · have hF := firstL_long hend HL.out HD0.out hsp h15
                have HBX : Hid (Lx.lexB s = ([], 3, a)) := lexEq_err hm HLX.out HP.out hend hF (by decide)
                clear hsp hF
                go_wp2_with fail
                refine (class_same _ _).mono ?_
                rintro e w1 ⟨rfl, rfl⟩
                go_wp2
                refine bodyPost_ret (v := .tuple #[.slice none 0 0, .agg #[.int .i64 3, .int .i64 a]]) (by simp [results, Try.results7, go_sem, t0, t1]) rfl ⟨.slice none 0 0, by rw [HBX.out]; rfl, ?_⟩
                rw [HBX.out]
                exact ⟨World.ownsRow_nil _ _ _ _, below_set (below_set HRW.out.2.1 (Nat.le_refl _) _) (Nat.le_refl _) _⟩
              · have hF := firstL_num hend HL.out HD0.out hsp h15
                have hmin : min m 15 = m := by omega
                have HL2 : Hid (LexEq s (done ++ [⟨2, s.extract a (a + m), N, a⟩]) f (a + m)) := by
                  have h := lexEq_tok HLX.out HP.out hend hF
                  have hn := HN.out
                  rw [hmin] at hn
                  rw [← hn] at h
                  exact h
                have hmpos : 0 < m := (Lx.firstL_pos hF).1
                clear hsp hF hmin
                have HW3 : Hid ((wr.alloc (.cells #[.int .i64 2, .string (s.extract a (a + m)), .int .i64 N, .int .i64 a] 32)).ownsRow (w.heap.size + 1) 32 4 u4 done.length (Lx.cellsOf done)) := (HRW.out.alloc _).1
                have HN3 : Hid (∀ j u, ([.int .i64 2, .string (s.extract a (a + m)), .int .i64 N, .int .i64 a] : List Value)[j]? = some u → (wr.alloc (.cells #[.int .i64 2, .string (s.extract a (a + m)), .int .i64 N, .int .i64 a] 32)).cell? ((⟨wr.heap.size, 0, none⟩ : Addr).add j) = some u) := World.news_of_block (heap_alloc_new wr (.cells #[.int .i64 2, .string (s.extract a (a + m)), .int .i64 N, .int .i64 a] 32))
                go_wp2_with fail
                refine (class_same _ _).mono ?_
                rintro e w1 ⟨rfl, rfl⟩
                go_wp2_with (at_builtin; refine wpList_append_own _ rfl _ _ 22 rfl (w.heap.size + 1) 32 i0 _ 4 40 Try.underlying22 hi hz0 hz1 hz2 rfl (by decide) _ _ _ rfl HW3.out ⟨wr.heap.size, 0, none⟩ 1 1 [.int .i64 2, .string (s.extract a (a + m)), .int .i64 N, .int .i64 a] rfl rfl HN3.out (one_cells 2 N a _) (by unfold maxLen; omega) (by omega) (by simp; omega) ?_)
                intro v' w3 hown' hgrow _
                have HO3 : Hid (w3.ownsRow (w.heap.size + 1) 32 4 v' (done.length + 1) (Lx.cellsOf done ++ [.int .i64 2, .string (s.extract a (a + m)), .int .i64 N, .int .i64 a])) := hown'
                clear hown'
                go_wp2
                go_roundw
                case rel => exact refRel_next hd hmpos hm1 hf HRW.out HO3.out hgrow HL2.out rfl
                case measure => simp [intOf]; omega
          · have hsp := span_from Lx.isDig s a m HI.out hm1 (fun h => absurd h hk1)
            by_cases h15 : 15 < m
            · have hF := firstL_long hend HL.out HD0.out hsp h15
              have HBX : Hid (Lx.lexB s = ([], 3, a)) := lexEq_err hm HLX.out HP.out hend hF (by decide)
              clear hsp hF
              go_wp2
              refine bodyPost_ret (v := .tuple #[.slice none 0 0, .agg #[.int .i64 3, .int .i64 a]]) (by simp [results, Try.results7, go_sem, t0, t1]) rfl ⟨.slice none 0 0, by rw [HBX.out]; rfl, ?_⟩
              rw [HBX.out]
              exact ⟨World.ownsRow_nil _ _ _ _, below_set (below_set HRW.out.2.1 (Nat.le_refl _) _) (Nat.le_refl _) _⟩
            · have hF := firstL_num hend HL.out HD0.out hsp h15
              have hmin : min m 15 = m := by omega
              have HL2 : Hid (LexEq s (done ++ [⟨2, s.extract a (a + m), N, a⟩]) f (a + m)) := by
                have h := lexEq_tok HLX.out HP.out hend hF
                have hn := HN.out
                rw [hmin] at hn
                rw [← hn] at h
                exact h
              have hmpos : 0 < m := (Lx.firstL_pos hF).1
              clear hsp hF hmin
              have HW3 : Hid ((wr.alloc (.cells #[.int .i64 2, .string (s.extract a (a + m)), .int .i64 N, .int .i64 a] 32)).ownsRow (w.heap.size + 1) 32 4 u4 done.length (Lx.cellsOf done)) := (HRW.out.alloc _).1
              have HN3 : Hid (∀ j u, ([.int .i64 2, .string (s.extract a (a + m)), .int .i64 N, .int .i64 a] : List Value)[j]? = some u → (wr.alloc (.cells #[.int .i64 2, .string (s.extract a (a + m)), .int .i64 N, .int .i64 a] 32)).cell? ((⟨wr.heap.size, 0, none⟩ : Addr).add j) = some u) := World.news_of_block (heap_alloc_new wr (.cells #[.int .i64 2, .string (s.extract a (a + m)), .int .i64 N, .int .i64 a] 32))
              go_wp2_with (at_builtin; refine wpList_append_own _ rfl _ _ 22 rfl (w.heap.size + 1) 32 i0 _ 4 40 Try.underlying22 hi hz0 hz1 hz2 rfl (by decide) _ _ _ rfl HW3.out ⟨wr.heap.size, 0, none⟩ 1 1 [.int .i64 2, .string (s.extract a (a + m)), .int .i64 N, .int .i64 a] rfl rfl HN3.out (one_cells 2 N a _) (by unfold maxLen; omega) (by omega) (by simp; omega) ?_)
              intro v' w3 hown' hgrow _
              have HO3 : Hid (w3.ownsRow (w.heap.size + 1) 32 4 v' (done.length + 1) (Lx.cellsOf done ++ [.int .i64 2, .string (s.extract a (a + m)), .int .i64 N, .int .i64 a])) := hown'
              clear hown'
              go_wp2
              go_roundw
              case rel => exact refRel_next hd hmpos hm1 hf HRW.out HO3.out hgrow HL2.out rfl
              case measure => simp [intOf]; omega
      · obtain ⟨hl, hdg, hbk, h35⟩ := cls_5 HCC.out
        have HL : Hid (Lx.isLet s[a] = false) := hl
        have HD0 : Hid (Lx.isDig s[a] = false) := hdg
        have HP : Hid (Lx.place s a = a) := place_tok hend hbk h35
        clear hl hdg hbk h35
        by_cases hl1 : a + 1 < s.size
        · have hsg2 := signL_two hend hl1
          by_cases h61 : s[a + 1].toNat = 61
          · have e61 : ((s[a + 1].toNat : Int) == 61) = true := by simp; omega
            rw [decide_eq_true h61] at hsg2
            clear h61
            cases htw : Lx.two s[a]
            · rw [htw] at hsg2
              obtain ⟨n1, n2, n3, n4⟩ := two_not htw
              have f1 : ((s[a].toNat : Int) == 61) = false := by simp; omega
              have f2 : ((s[a].toNat : Int) == 33) = false := by simp; omega
              have f3 : ((s[a].toNat : Int) == 60) = false := by simp; omega
              have f4 : ((s[a].toNat : Int) == 62) = false := by simp; omega
              have HSG : Hid (Lx.signL (s.data.toList.drop a) = if Lx.one s[a] then 1 else 0) := by unfold Hid; rw [hsg2]; rfl
              clear hsg2 n1 n3 n4 htw
              have hsg : Lx.signL (s.data.toList.drop a) = if Lx.one s[a] then 1 else 0 := HSG.out
              by_cases h33 : s[a].toNat = 33
              · exact absurd h33 n2
              · have e33 : ((s[a].toNat : Int) == 33) = false := by simp; omega
                cases ho : Lx.one s[a]
                · have hF := firstL_sign hend HL.out HD0.out hsg
                  rw [ho] at hF
                  have HBX : Hid (Lx.lexB s = ([], 2, a)) := lexEq_err hm HLX.out HP.out hend hF (by decide)
                  clear hsg hF h33
                  go_wp2_with fail
                  refine (HCL.out _).mono ?_
                  rintro e w1 ⟨rfl, rfl⟩
                  go_wp2_with fail
                  refine (one_any _ _).mono ?_
                  rintro e w1 ⟨rfl, hb1⟩
                  have HRW1 : Hid (RW w u4 done w1) := HRW.out.below hb1
                  obtain ⟨t0, t1, y0, y1⟩ := two_cell HRW1.out.2.2
                  have hwr1 : w.heap.size < w1.heap.size := HRW1.out.lt
                  clear hb1
                  go_wp2
                  refine bodyPost_ret (v := .tuple #[.slice none 0 0, .agg #[.int .i64 2, .int .i64 a]]) (by simp [results, Try.results7, go_sem, t0, t1]) rfl ⟨.slice none 0 0, by rw [HBX.out]; rfl, ?_⟩
                  rw [HBX.out]
                  exact ⟨World.ownsRow_nil _ _ _ _, below_set (below_set HRW1.out.2.1 (Nat.le_refl _) _) (Nat.le_refl _) _⟩
                · have hF := firstL_sign hend HL.out HD0.out hsg
                  rw [ho] at hF
                  have HL2 : Hid (LexEq s (done ++ [⟨3, s.extract a (a + 1), 0, a⟩]) f (a + 1)) := lexEq_tok HLX.out HP.out hend hF
                  clear hsg hF h33
                  go_wp2_with fail
                  refine (HCL.out _).mono ?_
                  rintro e w1 ⟨rfl, rfl⟩
                  go_wp2_with fail
                  refine (one_any _ _).mono ?_
                  rintro e w1 ⟨rfl, hb1⟩
                  have HRW1 : Hid (RW w u4 done w1) := HRW.out.below hb1
                  obtain ⟨t0, t1, y0, y1⟩ := two_cell HRW1.out.2.2
                  have hwr1 : w.heap.size < w1.heap.size := HRW1.out.lt
                  clear hb1
                  have HW3 : Hid ((w1.alloc (.cells #[.int .i64 3, .string (s.extract a (a + 1)), .int .i64 0, .int .i64 a] 32)).ownsRow (w.heap.size + 1) 32 4 u4 done.length (Lx.cellsOf done)) := (HRW1.out.alloc _).1
                  have HN3 : Hid (∀ j u, ([.int .i64 3, .string (s.extract a (a + 1)), .int .i64 0, .int .i64 a] : List Value)[j]? = some u → (w1.alloc (.cells #[.int .i64 3, .string (s.extract a (a + 1)), .int .i64 0, .int .i64 a] 32)).cell? ((⟨w1.heap.size, 0, none⟩ : Addr).add j) = some u) := World.news_of_block (heap_alloc_new w1 (.cells #[.int .i64 3, .string (s.extract a (a + 1)), .int .i64 0, .int .i64 a] 32))
                  go_wp2_with (at_builtin; refine wpList_append_own _ rfl _ _ 22 rfl (w.heap.size + 1) 32 i0 _ 4 40 Try.underlying22 hi hz0 hz1 hz2 rfl (by decide) _ _ _ rfl HW3.out ⟨w1.heap.size, 0, none⟩ 1 1 [.int .i64 3, .string (s.extract a (a + 1)), .int .i64 0, .int .i64 a] rfl rfl HN3.out (one_cells 3 0 a _) (by unfold maxLen; omega) (by omega) (by simp; omega) ?_)
                  intro v' w3 hown' hgrow _
                  have HO3 : Hid (w3.ownsRow (w.heap.size + 1) 32 4 v' (done.length + 1) (Lx.cellsOf done ++ [.int .i64 3, .string (s.extract a (a + 1)), .int .i64 0, .int .i64 a])) := hown'
                  clear hown'
                  go_wp2
                  go_roundw
                  case rel => exact refRel_next hd (by decide) (by omega) hf HRW1.out HO3.out hgrow HL2.out rfl
                  case measure => simp [intOf]; omega
            · rw [htw] at hsg2
              have hF := firstL_sign hend HL.out HD0.out hsg2
              have HL2 : Hid (LexEq s (done ++ [⟨3, s.extract a (a + 2), 0, a⟩]) f (a + 2)) := lexEq_tok HLX.out HP.out hend hF
              have htc := two_cases htw
              clear hsg2 hF htw
              have hbool : (((s[a].toNat : Int) == 61) = true) ∨ (((s[a].toNat : Int) == 61) = false ∧ ((s[a].toNat : Int) == 33) = true) ∨ (((s[a].toNat : Int) == 61) = false ∧ ((s[a].toNat : Int) == 33) = false ∧ ((s[a].toNat : Int) == 60) = true) ∨ (((s[a].toNat : Int) == 61) = false ∧ ((s[a].toNat : Int) == 33) = false ∧ ((s[a].toNat : Int) == 60) = false ∧ ((s[a].toNat : Int) == 62) = true) := by
                simp only [beq_iff_eq, beq_eq_false_iff_ne, ne_eq]
                omega
              clear htc
              rcases hbool with g1 | ⟨g1, g2⟩ | ⟨g1, g2, g3⟩ | ⟨g1, g2, g3, g4⟩
              all_goals
                have HW3 : Hid ((wr.alloc (.cells #[.int .i64 3, .string (s.extract a (a + 1 + 1)), .int .i64 0, .int .i64 a] 32)).ownsRow (w.heap.size + 1) 32 4 u4 done.length (Lx.cellsOf done)) := (HRW.out.alloc _).1
                have HN3 : Hid (∀ j u, ([.int .i64 3, .string (s.extract a (a + 1 + 1)), .int .i64 0, .int .i64 a] : List Value)[j]? = some u → (wr.alloc (.cells #[.int .i64 3, .string (s.extract a (a + 1 + 1)), .int .i64 0, .int .i64 a] 32)).cell? ((⟨wr.heap.size, 0, none⟩ : Addr).add j) = some u) := World.news_of_block (heap_alloc_new wr (.cells #[.int .i64 3, .string (s.extract a (a + 1 + 1)), .int .i64 0, .int .i64 a] 32))
                go_wp2_with fail
                refine (HCL.out _).mono ?_
                rintro e w1 ⟨rfl, rfl⟩
                go_wp2_with (at_builtin; refine wpList_append_own _ rfl _ _ 22 rfl (w.heap.size + 1) 32 i0 _ 4 40 Try.underlying22 hi hz0 hz1 hz2 rfl (by decide) _ _ _ rfl HW3.out ⟨wr.heap.size, 0, none⟩ 1 1 [.int .i64 3, .string (s.extract a (a + 1 + 1)), .int .i64 0, .int .i64 a] rfl rfl HN3.out (one_cells 3 0 a _) (by unfold maxLen; omega) (by omega) (by simp; omega) ?_)
                intro v' w3 hown' hgrow _
                have HO3 : Hid (w3.ownsRow (w.heap.size + 1) 32 4 v' (done.length + 1) (Lx.cellsOf done ++ [.int .i64 3, .string (s.extract a (a + 1 + 1)), .int .i64 0, .int .i64 a])) := hown'
                clear hown'
                go_wp2
                go_roundw
                case rel => exact refRel_next (N := 2) hd (by decide) (by omega) hf HRW.out HO3.out hgrow HL2.out (by omega)
                case measure => simp [intOf]; omega
          · have e61 : ((s[a + 1].toNat : Int) == 61) = false := by simp; omega
            rw [decide_eq_false h61] at hsg2
            have HSG : Hid (Lx.signL (s.data.toList.drop a) = if Lx.one s[a] then 1 else 0) := by unfold Hid; rw [hsg2]; rfl
            clear hsg2 h61
            have hsg : Lx.signL (s.data.toList.drop a) = if Lx.one s[a] then 1 else 0 := HSG.out
            by_cases h33 : s[a].toNat = 33
            · have hF := firstL_sign hend HL.out HD0.out hsg
              rw [one_33 h33] at hF
              have HBX : Hid (Lx.lexB s = ([], 2, a)) := lexEq_err hm HLX.out HP.out hend hF (by decide)
              have e33 : ((s[a].toNat : Int) == 33) = true := by simp; omega
              clear hsg hF h33
              go_wp2_with fail
              refine (HCL.out _).mono ?_
              rintro e w1 ⟨rfl, rfl⟩
              go_wp2
              refine bodyPost_ret (v := .tuple #[.slice none 0 0, .agg #[.int .i64 2, .int .i64 a]]) (by simp [results, Try.results7, go_sem, t0, t1]) rfl ⟨.slice none 0 0, by rw [HBX.out]; rfl, ?_⟩
              rw [HBX.out]
              exact ⟨World.ownsRow_nil _ _ _ _, below_set (below_set HRW.out.2.1 (Nat.le_refl _) _) (Nat.le_refl _) _⟩
            · have e33 : ((s[a].toNat : Int) == 33) = false := by simp; omega
              cases ho : Lx.one s[a]
              · have hF := firstL_sign hend HL.out HD0.out hsg
                rw [ho] at hF
                have HBX : Hid (Lx.lexB s = ([], 2, a)) := lexEq_err hm HLX.out HP.out hend hF (by decide)
                clear hsg hF h33
                go_wp2_with fail
                refine (HCL.out _).mono ?_
                rintro e w1 ⟨rfl, rfl⟩
                go_wp2_with fail
                refine (one_any _ _).mono ?_
                rintro e w1 ⟨rfl, hb1⟩
                have HRW1 : Hid (RW w u4 done w1) := HRW.out.below hb1
                obtain ⟨t0, t1, y0, y1⟩ := two_cell HRW1.out.2.2
                have hwr1 : w.heap.size < w1.heap.size := HRW1.out.lt
                clear hb1
                go_wp2
                refine bodyPost_ret (v := .tuple #[.slice none 0 0, .agg #[.int .i64 2, .int .i64 a]]) (by simp [results, Try.results7, go_sem, t0, t1]) rfl ⟨.slice none 0 0, by rw [HBX.out]; rfl, ?_⟩
                rw [HBX.out]
                exact ⟨World.ownsRow_nil _ _ _ _, below_set (below_set HRW1.out.2.1 (Nat.le_refl _) _) (Nat.le_refl _) _⟩
              · have hF := firstL_sign hend HL.out HD0.out hsg
                rw [ho] at hF
                have HL2 : Hid (LexEq s (done ++ [⟨3, s.extract a (a + 1), 0, a⟩]) f (a + 1)) := lexEq_tok HLX.out HP.out hend hF
                clear hsg hF h33
                go_wp2_with fail
                refine (HCL.out _).mono ?_
                rintro e w1 ⟨rfl, rfl⟩
                go_wp2_with fail
                refine (one_any _ _).mono ?_
                rintro e w1 ⟨rfl, hb1⟩
                have HRW1 : Hid (RW w u4 done w1) := HRW.out.below hb1
                obtain ⟨t0, t1, y0, y1⟩ := two_cell HRW1.out.2.2
                have hwr1 : w.heap.size < w1.heap.size := HRW1.out.lt
                clear hb1
                have HW3 : Hid ((w1.alloc (.cells #[.int .i64 3, .string (s.extract a (a + 1)), .int .i64 0, .int .i64 a] 32)).ownsRow (w.heap.size + 1) 32 4 u4 done.length (Lx.cellsOf done)) := (HRW1.out.alloc _).1
                have HN3 : Hid (∀ j u, ([.int .i64 3, .string (s.extract a (a + 1)), .int .i64 0, .int .i64 a] : List Value)[j]? = some u → (w1.alloc (.cells #[.int .i64 3, .string (s.extract a (a + 1)), .int .i64 0, .int .i64 a] 32)).cell? ((⟨w1.heap.size, 0, none⟩ : Addr).add j) = some u) := World.news_of_block (heap_alloc_new w1 (.cells #[.int .i64 3, .string (s.extract a (a + 1)), .int .i64 0, .int .i64 a] 32))
                go_wp2_with (at_builtin; refine wpList_append_own _ rfl _ _ 22 rfl (w.heap.size + 1) 32 i0 _ 4 40 Try.underlying22 hi hz0 hz1 hz2 rfl (by decide) _ _ _ rfl HW3.out ⟨w1.heap.size, 0, none⟩ 1 1 [.int .i64 3, .string (s.extract a (a + 1)), .int .i64 0, .int .i64 a] rfl rfl HN3.out (one_cells 3 0 a _) (by unfold maxLen; omega) (by omega) (by simp; omega) ?_)
                intro v' w3 hown' hgrow _
                have HO3 : Hid (w3.ownsRow (w.heap.size + 1) 32 4 v' (done.length + 1) (Lx.cellsOf done ++ [.int .i64 3, .string (s.extract a (a + 1)), .int .i64 0, .int .i64 a])) := hown'
                clear hown'
                go_wp2
                go_roundw
                case rel => exact refRel_next hd (by decide) (by omega) hf HRW1.out HO3.out hgrow HL2.out rfl
                case measure => simp [intOf]; omega
        · have HSG : Hid (Lx.signL (s.data.toList.drop a) = if Lx.one s[a] then 1 else 0) := signL_last hend hl1
          have hsg : Lx.signL (s.data.toList.drop a) = if Lx.one s[a] then 1 else 0 := HSG.out
          by_cases h33 : s[a].toNat = 33
          · have hF := firstL_sign hend HL.out HD0.out hsg
            rw [one_33 h33] at hF
            have HBX : Hid (Lx.lexB s = ([], 2, a)) := lexEq_err hm HLX.out HP.out hend hF (by decide)
            have e33 : ((s[a].toNat : Int) == 33) = true := by simp; omega
            clear hsg hF h33
            go_wp2_with fail
            refine (HCL.out _).mono ?_
            rintro e w1 ⟨rfl, rfl⟩
            go_wp2
            refine bodyPost_ret (v := .tuple #[.slice none 0 0, .agg #[.int .i64 2, .int .i64 a]]) (by simp [results, Try.results7, go_sem, t0, t1]) rfl ⟨.slice none 0 0, by rw [HBX.out]; rfl, ?_⟩
            rw [HBX.out]
            exact ⟨World.ownsRow_nil _ _ _ _, below_set (below_set HRW.out.2.1 (Nat.le_refl _) _) (Nat.le_refl _) _⟩
          · have e33 : ((s[a].toNat : Int) == 33) = false := by simp; omega
            cases ho : Lx.one s[a]
            · have hF := firstL_sign hend HL.out HD0.out hsg
              rw [ho] at hF
              have HBX : Hid (Lx.lexB s = ([], 2, a)) := lexEq_err hm HLX.out HP.out hend hF (by decide)
              clear hsg hF h33
              go_wp2_with fail
              refine (HCL.out _).mono ?_
              rintro e w1 ⟨rfl, rfl⟩
              go_wp2_with fail
              refine (one_any _ _).mono ?_
              rintro e w1 ⟨rfl, hb1⟩
              have HRW1 : Hid (RW w u4 done w1) := HRW.out.below hb1
              obtain ⟨t0, t1, y0, y1⟩ := two_cell HRW1.out.2.2
              have hwr1 : w.heap.size < w1.heap.size := HRW1.out.lt
              clear hb1
              go_wp2
              refine bodyPost_ret (v := .tuple #[.slice none 0 0, .agg #[.int .i64 2, .int .i64 a]]) (by simp [results, Try.results7, go_sem, t0, t1]) rfl ⟨.slice none 0 0, by rw [HBX.out]; rfl, ?_⟩
              rw [HBX.out]
              exact ⟨World.ownsRow_nil _ _ _ _, below_set (below_set HRW1.out.2.1 (Nat.le_refl _) _) (Nat.le_refl _) _⟩
            · have hF := firstL_sign hend HL.out HD0.out hsg
              rw [ho] at hF
              have HL2 : Hid (LexEq s (done ++ [⟨3, s.extract a (a + 1), 0, a⟩]) f (a + 1)) := lexEq_tok HLX.out HP.out hend hF
              clear hsg hF h33
              go_wp2_with fail
              refine (HCL.out _).mono ?_
              rintro e w1 ⟨rfl, rfl⟩
              go_wp2_with fail
              refine (one_any _ _).mono ?_
              rintro e w1 ⟨rfl, hb1⟩
              have HRW1 : Hid (RW w u4 done w1) := HRW.out.below hb1
              obtain ⟨t0, t1, y0, y1⟩ := two_cell HRW1.out.2.2
              have hwr1 : w.heap.size < w1.heap.size := HRW1.out.lt
              clear hb1
              have HW3 : Hid ((w1.alloc (.cells #[.int .i64 3, .string (s.extract a (a + 1)), .int .i64 0, .int .i64 a] 32)).ownsRow (w.heap.size + 1) 32 4 u4 done.length (Lx.cellsOf done)) := (HRW1.out.alloc _).1
              have HN3 : Hid (∀ j u, ([.int .i64 3, .string (s.extract a (a + 1)), .int .i64 0, .int .i64 a] : List Value)[j]? = some u → (w1.alloc (.cells #[.int .i64 3, .string (s.extract a (a + 1)), .int .i64 0, .int .i64 a] 32)).cell? ((⟨w1.heap.size, 0, none⟩ : Addr).add j) = some u) := World.news_of_block (heap_alloc_new w1 (.cells #[.int .i64 3, .string (s.extract a (a + 1)), .int .i64 0, .int .i64 a] 32))
              go_wp2_with (at_builtin; refine wpList_append_own _ rfl _ _ 22 rfl (w.heap.size + 1) 32 i0 _ 4 40 Try.underlying22 hi hz0 hz1 hz2 rfl (by decide) _ _ _ rfl HW3.out ⟨w1.heap.size, 0, none⟩ 1 1 [.int .i64 3, .string (s.extract a (a + 1)), .int .i64 0, .int .i64 a] rfl rfl HN3.out (one_cells 3 0 a _) (by unfold maxLen; omega) (by omega) (by simp; omega) ?_)
              intro v' w3 hown' hgrow _
              have HO3 : Hid (w3.ownsRow (w.heap.size + 1) 32 4 v' (done.length + 1) (Lx.cellsOf done ++ [.int .i64 3, .string (s.extract a (a + 1)), .int .i64 0, .int .i64 a])) := hown'
              clear hown'
              go_wp2
              go_roundw
              case rel => exact refRel_next hd (by decide) (by omega) hf HRW1.out HO3.out hgrow HL2.out rfl
              case measure => simp [intOf]; omega
    · have HBX : Hid (Lx.lexB s = (done, 0, 0)) := lexEq_end hm HLX.out (by omega)
      go_wp2
      refine bodyPost_ret (v := .tuple #[u4, .agg #[.int .i64 0, .int .i64 0]]) (by simp [results, Try.results7, go_sem, t0, t1]) rfl ⟨u4, by rw [HBX.out]; rfl, ?_⟩
      rw [HBX.out]
      exact ⟨own_base (ownsRow_setCell_below (ownsRow_setCell_below HRW.out.1 (Nat.lt_succ_self _) _) (Nat.lt_succ_self _) _) (Nat.le_succ _), below_set (below_set HRW.out.2.1 (Nat.le_refl _) _) (Nat.le_refl _) _⟩

end Go.Proofs.Ytfmkhdncbdkpoaa
