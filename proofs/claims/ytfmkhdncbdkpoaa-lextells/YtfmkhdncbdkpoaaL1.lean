/- The walks of alive and of LexCovers. -/
import Derived.Test.YtfmkhdncbdkpoaaW5
import Derived.Test.YtfmkhdncbdkpoaaPlain5
import Derived.Deep.QuietTactic
import Derived.BigQuiet
namespace Go.Proofs.Ytfmkhdncbdkpoaa
open Go.RowKit

def aliveText : ByteArray := ⟨#[97, 49, 32, 60, 61, 32, 49, 53, 32, 35, 32, 120]⟩

theorem alive_lex : (Lx.lexB aliveText).2 = (0, 0) ∧ (Lx.lexB aliveText).1.length = 3 ∧
    Lx.cellsOf (Lx.lexB aliveText).1 = [.int .i64 1, .string ⟨#[97, 49]⟩, .int .i64 0, .int .i64 0, .int .i64 3, .string ⟨#[60, 61]⟩, .int .i64 0, .int .i64 3, .int .i64 2, .string ⟨#[49, 53]⟩, .int .i64 15, .int .i64 6] :=
  ⟨by kernel_rfl, by kernel_rfl, by kernel_rfl⟩

/-- What owns something: its value and its cells. -/
theorem own_form {w : World} {B e size n : Nat} {v : Value} {xs : List Value} (h : w.ownsRow B e size v n xs) (hn : 0 < n) :
    ∃ g cap, v = .slice (some ⟨g, 0, none⟩) n cap ∧ n ≤ cap ∧ cap ≤ maxLen ∧ B ≤ g ∧ ∀ j u, xs[j]? = some u → w.cell? ⟨g, j, none⟩ = some u := by
  rcases h.2 with ⟨_, h0⟩ | ⟨g, cap, cur, rfl, hg, hh, h1, h2, h3⟩
  · omega
  · refine ⟨g, cap, rfl, h1, h2, hg, fun j u hu => ?_⟩
    have := h.cells (g := g) rfl j u hu
    have hadd : (⟨g, 0, none⟩ : Addr).add j = ⟨g, j, none⟩ := by unfold Addr.add; split <;> simp_all
    rwa [hadd] at this

set_option maxHeartbeats 400000 in
theorem alive_any (w : World) : Calls Try.prog 11 #[] w fun e w' => e = .returned (.bool true) ∧ Below w.heap.size w w' := by
  go_enter Try.func11, Try.ntmps11
  go_wp2_with fail
  refine (tokens_any aliveText w (by decide)).mono ?_
  rintro e w1 ⟨v, rfl, hown, hb⟩
  rw [alive_lex.1]
  rw [alive_lex.2.1, alive_lex.2.2] at hown
  obtain ⟨g, cap, rfl, h1, h2, h3, hc⟩ := own_form hown (by decide)
  have c5 := hc 5 _ rfl
  have c10 := hc 10 _ rfl
  have hg : g < w1.heap.size := (hown.lt g rfl).2
  clear hc hown
  go_wp2
  go_ret
  exact ⟨rfl, hb.alloc hb.size _⟩

theorem cellsOf_get : ∀ (T : List Lx.Tk) (j : Nat) (t : Lx.Tk), T[j]? = some t → ∀ i, i < 4 → (Lx.cellsOf T)[j * 4 + i]? = t.cells[i]?
  | [], j, t, h, _, _ => by simp at h
  | x :: T, 0, t, h, i, hi => by
    simp at h; subst h
    simp only [Lx.cellsOf, List.flatMap_cons, Nat.zero_mul, Nat.zero_add]
    rw [List.getElem?_append_left (by simpa [Lx.Tk.cells] using hi)]
  | x :: T, j + 1, t, h, i, hi => by
    have ih := cellsOf_get T j t (by simpa using h) i hi
    simp only [Lx.cellsOf, List.flatMap_cons] at ih ⊢
    rw [List.getElem?_append_right (by simp [Lx.Tk.cells]; omega)]
    have e : (j + 1) * 4 + i - x.cells.length = j * 4 + i := by simp [Lx.Tk.cells]; omega
    rw [e, ih]

theorem extract_ne (s : ByteArray) (p N : Nat) (hN : 0 < N) (hle : p + N ≤ s.size) : (s.extract p (p + N)).toList.isEmpty = false := by
  have h : (s.extract p (p + N)).size = N := by simp; omega
  cases he : (s.extract p (p + N)).toList with
  | nil =>
    rw [Lib.toList_data] at he
    rw [Lib.size_eq, he] at h
    simp at h
    omega
  | cons a l => rfl

/-- What holds inside a gap that begins at en: behind q bytes of the text the remark's flag is b. -/
def InGap (s : ByteArray) (en q : Nat) (b : Bool) : Prop := en ≤ q ∧ Lx.gapL false (s.data.toList.drop en) = (q - en) + Lx.gapL b (s.data.toList.drop q)

theorem inGap_start (s : ByteArray) (en : Nat) : InGap s en en false := ⟨Nat.le_refl _, by simp⟩

theorem inGap_kept {s : ByteArray} {en q : Nat} {b : Bool} (h : InGap s en q b) (hq : q < s.size) (hp : q < Lx.place s en) : (Lx.rem1 b s[q] || Lx.isBlk s[q]) = true := by
  cases hk : (Lx.rem1 b s[q] || Lx.isBlk s[q])
  · have h2 := h.2
    rw [drop_byte s q hq, Lx.gapL_no hk] at h2
    have := h.1
    unfold Lx.place at hp
    omega
  · rfl

theorem inGap_next {s : ByteArray} {en q : Nat} {b : Bool} (h : InGap s en q b) (hq : q < s.size) (hp : q < Lx.place s en) : InGap s en (q + 1) (Lx.rem1 b s[q]) := by
  have hk := inGap_kept h hq hp
  have h2 := h.2
  rw [drop_byte s q hq, Lx.gapL_yes hk] at h2
  exact ⟨by have := h.1; omega, by have := h.1; omega⟩

/-- What holds at the head of LexCovers' outer loop. -/
def CovRel (s : ByteArray) (T : List Lx.Tk) (w : World) (v : Value) (k : Nat) (en i : Value) (wr : World) : Prop :=
  ∃ e j : Nat, j + k = T.length + 1 ∧ en = .int .i64 e ∧ i = .int .i64 j ∧ e ≤ s.size ∧ wr.ownsRow w.heap.size 32 4 v T.length (Lx.cellsOf T) ∧ Below w.heap.size w wr ∧ (j ≤ T.length → Lx.Covered s e (T.drop j))

set_option maxHeartbeats 400000 in
theorem covers_bad (s : ByteArray) (w : World) (hs : s.size ≤ maxLen) (hE : ¬ (Lx.lexB s).2.1 = 0) :
    Calls Try.prog 5 #[.string s] w fun e w' => e = .returned (.bool true) ∧ Below w.heap.size w w' := by
  go_enter Try.func5, Try.ntmps5
  go_wp2_with fail
  refine (alive_any w).mono ?_
  rintro e w1 ⟨rfl, hb1⟩
  go_wp2_with fail
  refine (tokens_any s w1 hs).mono ?_
  rintro e w2 ⟨v, rfl, hown, hb2⟩
  rw [Lx.lexB_bad_nil s hE] at hown
  obtain ⟨E, hE1⟩ : ∃ E, (Lx.lexB s).2.1 = E := ⟨_, rfl⟩
  obtain ⟨P, hP1⟩ : ∃ P, (Lx.lexB s).2.2 = P := ⟨_, rfl⟩
  rw [hE1, hP1]
  rw [hE1] at hE
  have hE2 : ((E : Int) == 0) = false := by simp; omega
  have hE3 : ((E : Int) != 0) = true := by simp; omega
  obtain ⟨ao, cap, rfl⟩ : ∃ ao cap, v = .slice ao 0 cap := by
    rcases hown.2 with ⟨rfl, _⟩ | ⟨g, cap, cur, rfl, _⟩
    · exact ⟨_, _, rfl⟩
    · exact ⟨_, _, rfl⟩
  clear hown hE1 hP1
  go_wp2
  go_ret
  exact ⟨rfl, (hb1.trans (hb2.mono hb1.size)).alloc (Nat.le_trans hb1.size hb2.size) _⟩

set_option maxRecDepth 100000 in
set_option maxHeartbeats 1000000 in
theorem covers_good (s : ByteArray) (w : World) (hs : s.size ≤ maxLen) (hE : (Lx.lexB s).2.1 = 0) :
    Calls Try.prog 5 #[.string s] w fun e w' => e = .returned (.bool true) ∧ Below w.heap.size w w' := by
  have HC : Hid (Lx.Covered s 0 (Lx.lexB s).1) := Lx.lexB_covered s hE
  have hTl := Lx.lexB_len s
  have hs' := hs
  unfold maxLen at hs'
  go_enter Try.func5, Try.ntmps5
  go_wp2_with fail
  refine (alive_any w).mono ?_
  rintro e w1 ⟨rfl, hb1⟩
  go_wp2_with fail
  refine (tokens_any s w1 hs).mono ?_
  rintro e w2 ⟨v, rfl, hown, hb2⟩
  rw [hE]
  obtain ⟨P, hP1⟩ : ∃ P, (Lx.lexB s).2.2 = P := ⟨_, rfl⟩
  rw [hP1]
  obtain ⟨T, hT⟩ : ∃ T, (Lx.lexB s).1 = T := ⟨_, rfl⟩
  rw [hT] at hown hTl HC
  have HO : Hid (w2.ownsRow w.heap.size 32 4 v T.length (Lx.cellsOf T)) := own_base hown hb1.size
  have hB : Below w.heap.size w w2 := hb1.trans (hb2.mono hb1.size)
  obtain ⟨n, hn⟩ : ∃ n, n = T.length := ⟨_, rfl⟩
  obtain ⟨ao, cap, hv⟩ : ∃ ao cap, v = .slice ao n cap := by
    rw [hn]
    rcases hown.2 with ⟨rfl, h0⟩ | ⟨g, cap, cur, rfl, _⟩
    · rw [h0]; exact ⟨_, _, rfl⟩
    · exact ⟨_, _, rfl⟩
  rw [← hn] at hTl
  subst hv
  clear hown hP1 hT hE hb1 hb2
  have HN : Hid (n = T.length) := hn
  clear hn
  go_wp2
  go_loopg [5, 6] (n + 1) (fun k en i wr => CovRel s T w (.slice ao n cap) k en i wr)
  case atStart =>
    refine ⟨0, 0, by have := HN.out; omega, rfl, rfl, Nat.zero_le _, HO.out.alloc _, hB.alloc hB.size _, fun _ => HC.out⟩
  case round =>
    obtain ⟨en, j, hjk, rfl, rfl, hen, hown, hbel, hcov⟩ := hrel
    have hjk2 : j + gk = n + 1 := by have := HN.out; omega
    have HCV : Hid (j ≤ T.length → Lx.Covered s en (T.drop j)) := hcov
    have HOW : Hid (wr.ownsRow w.heap.size 32 4 (.slice ao n cap) T.length (Lx.cellsOf T)) := hown
    have HJK : Hid (j + gk = n + 1) := hjk2
    clear hjk hcov hown hjk2
    by_cases hj1 : n < j
    · go_wp2
      go_ret
      exact ⟨rfl, hbel⟩
    · have d0 : decide (j ≤ n) = true := by simp; omega
      by_cases hj2 : j < n
      · obtain ⟨tk, htk⟩ : ∃ tk, T[j]? = some tk := ⟨_, List.getElem?_eq_getElem (by have := HN.out; omega)⟩
        have hcv := HCV.out (by have := HN.out; omega)
        rw [List.drop_eq_getElem_cons (by have := HN.out; omega)] at hcv
        have etk : T[j]'(by have := HN.out; omega) = tk := by
          rw [List.getElem?_eq_getElem (by have := HN.out; omega)] at htk; simpa using htk
        rw [etk] at hcv
        obtain ⟨N, hpos, hN, hle, htext, hcv2⟩ := hcv
        obtain ⟨g, cap', hsl, hc1, hc2, hg1, hcell⟩ := own_form HOW.out (by have := HN.out; omega)
        simp only [Value.slice.injEq] at hsl
        obtain ⟨rfl, hnn, rfl⟩ := hsl
        clear hnn
        have c3 := hcell (j * 4 + 3) _ ((cellsOf_get T j tk htk 3 (by omega)).trans rfl)
        have c1 := hcell (j * 4 + 1) _ ((cellsOf_get T j tk htk 1 (by omega)).trans rfl)
        obtain ⟨p, hp⟩ : ∃ p, tk.pos = p := ⟨_, rfl⟩
        rw [htext] at c1
        rw [hp] at c3 c1 hpos hle hcv2
        have HCV2 : Hid (Lx.Covered s (p + N) (T.drop (j + 1))) := hcv2
        have HPOS : Hid (p = Lx.place s en) := hpos
        have hep : en ≤ p := by rw [hpos]; unfold Lx.place; omega
        clear hcell hcv2 hpos htext etk htk hp
        go_wp2
        have hne : (s.extract p (p + N)).toList.isEmpty = false := extract_ne s p N hN hle
        have HPL : Hid (p = Lx.place s en) := HPOS
        have d1 : decide (p < en) = false := by simp; omega
        have d2 : decide ((s.size : Int) < (p : Int) + (N : Int)) = false := by simp; omega
        go_region
        all_goals go_wp2
        go_loopg [9, 10] (p - en) (fun k r kk wx => ∃ (q : Nat) (b : Bool), q + k = p ∧ r = .bool b ∧ kk = .int .i64 q ∧ wr.drew = wx ∧ Hid (InGap s en q b))
        case atStart => exact ⟨en, false, by omega, rfl, rfl, rfl, inGap_start s en⟩
        case round =>
          obtain ⟨q, b, hqk, rfl, rfl, rfl, HI⟩ := hrel
          have HQK : Hid (q + gk = p) := hqk
          have hqP : q ≤ p := by omega
          clear hqk
          by_cases hq : q < p
          · have hqs : q < s.size := by omega
            have hpl : q < Lx.place s en := (by rw [← HPL.out]; exact hq)
            have hk := inGap_kept HI.out hqs hpl
            have HI2 : Hid (InGap s en (q + 1) (Lx.rem1 b s[q])) := inGap_next HI.out hqs hpl
            clear hpl
            by_cases h10 : s[q].toNat = 10
            · have e1 : ((s[q].toNat : Int) == 10) = true := by simp; omega
              have e2 : ((s[q].toNat : Int) != 10) = false := by simp; omega
              have e3 : ((s[q].toNat : Int) == 35) = false := by simp; omega
              have e5 : ((s[q].toNat : Int) != 32) = true := by simp; omega
              have e6 : ((s[q].toNat : Int) != 9) = true := by simp; omega
              have er : Lx.rem1 b s[q] = false := by unfold Lx.rem1; rw [if_pos h10]
              rw [er] at HI2
              clear hk er h10
              cases b
              all_goals
                go_wp2
                go_roundg (gk - 1)
                case measure => have := HQK.out; omega
                case rel => exact ⟨q + 1, false, by have := HQK.out; omega, rfl, by go_num, rfl, HI2⟩
            · have e2 : ((s[q].toNat : Int) != 10) = true := by simp; omega
              by_cases h35 : s[q].toNat = 35
              · have e3 : ((s[q].toNat : Int) == 35) = true := by simp; omega
                have er : Lx.rem1 b s[q] = true := by unfold Lx.rem1; rw [if_neg h10, if_pos h35]
                rw [er] at HI2
                clear hk er h10 h35
                cases b
                all_goals
                  go_wp2
                  go_roundg (gk - 1)
                  case measure => have := HQK.out; omega
                  case rel => exact ⟨q + 1, true, by have := HQK.out; omega, rfl, by go_num, rfl, HI2⟩
              · have e3 : ((s[q].toNat : Int) == 35) = false := by simp; omega
                have er : Lx.rem1 b s[q] = b := by unfold Lx.rem1; rw [if_neg h10, if_neg h35]
                rw [er] at HI2 hk
                clear er h35
                cases b
                · have hb2 : s[q].toNat = 32 ∨ s[q].toNat = 9 := by
                    have := of_decide_eq_true (show Lx.isBlk s[q] = true by simpa using hk)
                    omega
                  clear hk h10
                  rcases hb2 with h | h
                  · have e5 : ((s[q].toNat : Int) != 32) = false := by simp; omega
                    clear h
                    go_wp2
                    go_roundg (gk - 1)
                    case measure => have := HQK.out; omega
                    case rel => exact ⟨q + 1, false, by have := HQK.out; omega, rfl, by go_num, rfl, HI2⟩
                  · have e5 : ((s[q].toNat : Int) != 32) = true := by simp; omega
                    have e6 : ((s[q].toNat : Int) != 9) = false := by simp; omega
                    clear h
                    go_wp2
                    go_roundg (gk - 1)
                    case measure => have := HQK.out; omega
                    case rel => exact ⟨q + 1, false, by have := HQK.out; omega, rfl, by go_num, rfl, HI2⟩
                · clear hk h10
                  go_wp2
                  go_roundg (gk - 1)
                  case measure => have := HQK.out; omega
                  case rel => exact ⟨q + 1, true, by have := HQK.out; omega, rfl, by go_num, rfl, HI2⟩
          · go_wp2
            go_roundg (n - j)
            case measure => have := HJK.out; omega
            case rel =>
              refine ⟨p + N, j + 1, by have := HN.out; omega, by go_num, by go_num, hle, HOW.out, hbel.drew, fun _ => HCV2.out⟩
      · have hcv := HCV.out (by have := HN.out; omega)
        rw [List.drop_of_length_le (by have := HN.out; omega)] at hcv
        have HPL : Hid (s.size ≤ Lx.place s en) := hcv
        have d3 : decide (j < n) = false := by simp; omega
        have d1 : decide (s.size < en) = false := by simp; omega
        clear hcv
        go_wp2
        go_loopg [9, 10] (s.size - en) (fun k r kk wx => ∃ (q : Nat) (b : Bool), q + k = s.size ∧ r = .bool b ∧ kk = .int .i64 q ∧ wr = wx ∧ Hid (InGap s en q b))
        case atStart => exact ⟨en, false, by omega, rfl, rfl, rfl, inGap_start s en⟩
        case round =>
          obtain ⟨q, b, hqk, rfl, rfl, rfl, HI⟩ := hrel
          have HQK : Hid (q + gk = s.size) := hqk
          have hqP : q ≤ s.size := by omega
          clear hqk
          by_cases hq : q < s.size
          · have hqs : q < s.size := by omega
            have hpl : q < Lx.place s en := Nat.lt_of_lt_of_le hq HPL.out
            have hk := inGap_kept HI.out hqs hpl
            have HI2 : Hid (InGap s en (q + 1) (Lx.rem1 b s[q])) := inGap_next HI.out hqs hpl
            clear hpl
            by_cases h10 : s[q].toNat = 10
            · have e1 : ((s[q].toNat : Int) == 10) = true := by simp; omega
              have e2 : ((s[q].toNat : Int) != 10) = false := by simp; omega
              have e3 : ((s[q].toNat : Int) == 35) = false := by simp; omega
              have e5 : ((s[q].toNat : Int) != 32) = true := by simp; omega
              have e6 : ((s[q].toNat : Int) != 9) = true := by simp; omega
              have er : Lx.rem1 b s[q] = false := by unfold Lx.rem1; rw [if_pos h10]
              rw [er] at HI2
              clear hk er h10
              cases b
              all_goals
                go_wp2
                go_roundg (gk - 1)
                case measure => have := HQK.out; omega
                case rel => exact ⟨q + 1, false, by have := HQK.out; omega, rfl, by go_num, rfl, HI2⟩
            · have e2 : ((s[q].toNat : Int) != 10) = true := by simp; omega
              by_cases h35 : s[q].toNat = 35
              · have e3 : ((s[q].toNat : Int) == 35) = true := by simp; omega
                have er : Lx.rem1 b s[q] = true := by unfold Lx.rem1; rw [if_neg h10, if_pos h35]
                rw [er] at HI2
                clear hk er h10 h35
                cases b
                all_goals
                  go_wp2
                  go_roundg (gk - 1)
                  case measure => have := HQK.out; omega
                  case rel => exact ⟨q + 1, true, by have := HQK.out; omega, rfl, by go_num, rfl, HI2⟩
              · have e3 : ((s[q].toNat : Int) == 35) = false := by simp; omega
                have er : Lx.rem1 b s[q] = b := by unfold Lx.rem1; rw [if_neg h10, if_neg h35]
                rw [er] at HI2 hk
                clear er h35
                cases b
                · have hb2 : s[q].toNat = 32 ∨ s[q].toNat = 9 := by
                    have := of_decide_eq_true (show Lx.isBlk s[q] = true by simpa using hk)
                    omega
                  clear hk h10
                  rcases hb2 with h | h
                  · have e5 : ((s[q].toNat : Int) != 32) = false := by simp; omega
                    clear h
                    go_wp2
                    go_roundg (gk - 1)
                    case measure => have := HQK.out; omega
                    case rel => exact ⟨q + 1, false, by have := HQK.out; omega, rfl, by go_num, rfl, HI2⟩
                  · have e5 : ((s[q].toNat : Int) != 32) = true := by simp; omega
                    have e6 : ((s[q].toNat : Int) != 9) = false := by simp; omega
                    clear h
                    go_wp2
                    go_roundg (gk - 1)
                    case measure => have := HQK.out; omega
                    case rel => exact ⟨q + 1, false, by have := HQK.out; omega, rfl, by go_num, rfl, HI2⟩
                · clear hk h10
                  go_wp2
                  go_roundg (gk - 1)
                  case measure => have := HQK.out; omega
                  case rel => exact ⟨q + 1, true, by have := HQK.out; omega, rfl, by go_num, rfl, HI2⟩
          · go_wp2
            go_roundg (n - j)
            case measure => have := HJK.out; omega
            case rel =>
              refine ⟨s.size, j + 1, by have := HN.out; omega, by go_num, by go_num, Nat.le_refl _, HOW.out, hbel, fun h => by have := HN.out; omega⟩

theorem covers_any (s : ByteArray) (w : World) (hs : s.size ≤ maxLen) :
    Calls Try.prog 5 #[.string s] w fun e w' => e = .returned (.bool true) ∧ Below w.heap.size w w' := by
  by_cases hE : (Lx.lexB s).2.1 = 0
  · exact covers_good s w hs hE
  · exact covers_bad s w hs hE

end Go.Proofs.Ytfmkhdncbdkpoaa
