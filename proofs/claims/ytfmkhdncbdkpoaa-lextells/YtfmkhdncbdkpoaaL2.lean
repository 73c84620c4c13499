/- The walk of LexJoined. -/
import Derived.Test.YtfmkhdncbdkpoaaL1
import Derived.Test.YtfmkhdncbdkpoaaPlain6
namespace Go.Proofs.Ytfmkhdncbdkpoaa
open Go.RowKit

theorem own_below {w w' : World} {B e size n : Nat} {v : Value} {xs : List Value} (h : w.ownsRow B e size v n xs) (hb : Below w.heap.size w w') : w'.ownsRow B e size v n xs :=
  h.kept (grown_below hb none) (by cases v.ownBlock <;> simp)

theorem own_slice {w : World} {B e size n : Nat} {v : Value} {xs : List Value} (h : w.ownsRow B e size v n xs) : ∃ ao cap, v = .slice ao n cap := by
  rcases h.2 with ⟨rfl, h0⟩ | ⟨g, cap, cur, rfl, _⟩
  · rw [h0]; exact ⟨_, _, rfl⟩
  · exact ⟨_, _, rfl⟩

theorem lexB_size {s : ByteArray} (h : (Lx.lexB s).2.1 = 0) : s.size ≤ 6000 := by
  unfold Lx.lexB at h
  by_cases hm : 6000 < s.size
  · rw [if_pos hm] at h; simp at h
  · omega

set_option maxRecDepth 100000 in
set_option maxHeartbeats 400000 in
theorem joined_early (s t : ByteArray) (w : World) (hs : s.size ≤ maxLen) (ht : t.size ≤ maxLen) (E F P Q : Nat) (hE : Hid ((Lx.lexB s).2 = (E, P))) (hF : Hid ((Lx.lexB t).2 = (F, Q)))
    (hc : ¬ E = 0 ∨ (E = 0 ∧ ¬ F = 0) ∨ (E = 0 ∧ F = 0 ∧ s.size ≤ 6000 ∧ t.size ≤ 6000 ∧ 6000 < s.size + t.size + 1)) :
    Calls Try.prog 4 #[.string s, .string t] w fun e w' => e = .returned (.bool true) ∧ Below w.heap.size w w' := by
  go_enter Try.func4, Try.ntmps4
  go_wp2_with fail
  refine (alive_any w).mono ?_
  rintro e w1 ⟨rfl, hb1⟩
  go_wp2_with fail
  refine (tokens_any s w1 hs).mono ?_
  rintro e w2 ⟨v, rfl, hown, hb2⟩
  rw [hE.out]
  clear hown
  go_wp2_with fail
  refine (tokens_any t _ ht).mono ?_
  rintro e w3 ⟨v', rfl, hown, hb3⟩
  rw [hF.out]
  clear hown
  have kZ : w3.heap[w2.heap.size]? = some (.cells #[.int .i64 E, .int .i64 P] 25 (0, 0)) := by
    rw [hb3.block _ (by simp)]; exact heap_alloc_new w2 _
  obtain ⟨t0, t1, y0, y1⟩ := two_cell kZ
  have hz := lt_of_block kZ
  have HB : Hid (Below w.heap.size w w3) := ((hb1.trans (hb2.mono hb1.size)).alloc (Nat.le_trans hb1.size hb2.size) _).trans (hb3.mono (by have := hb1.size; have := hb2.size; simp; omega))
  have hsz : w.heap.size ≤ w3.heap.size := HB.out.size
  clear kZ hb1 hb2 hb3
  rcases hc with h | ⟨rfl, h⟩ | ⟨rfl, rfl, h1, h2, h3⟩
  · have e2 : ((E : Int) != 0) = true := by simp; omega
    have e3 : ((E : Int) == 0) = false := by simp; omega
    clear h
    go_wp2
    go_ret
    exact ⟨rfl, HB.out.alloc hsz _⟩
  · have e2 : ((F : Int) != 0) = true := by simp; omega
    have e3 : ((F : Int) == 0) = false := by simp; omega
    clear h
    go_wp2
    go_ret
    exact ⟨rfl, HB.out.alloc hsz _⟩
  · go_wp2
    go_ret
    exact ⟨rfl, HB.out.alloc hsz _⟩

theorem join_list (s t : ByteArray) : (s ++ ⟨#[10]⟩ ++ t).data.toList = s.data.toList ++ 10 :: t.data.toList := by
  simp [ByteArray.data_append]

theorem covered_pos (s : ByteArray) : ∀ (a : Nat) (l : List Lx.Tk), Lx.Covered s a l → ∀ x ∈ l, x.pos ≤ s.size
  | _, [], _, x, hx => by simp at hx
  | a, t :: l, h, x, hx => by
    obtain ⟨N, h1, h2, h3, h4, h5⟩ := h
    rcases List.mem_cons.1 hx with rfl | hx
    · omega
    · exact covered_pos s _ l h5 x hx

/-- The four cells of an owned token. -/
theorem own_tok {w : World} {B g cap n : Nat} {L : List Lx.Tk} (h : w.ownsRow B 32 4 (.slice (some ⟨g, 0, none⟩) n cap) L.length (Lx.cellsOf L)) {k : Nat} {t : Lx.Tk} (ht : L[k]? = some t) :
    w.cell? ⟨g, k * 4, none⟩ = some (.int .i64 t.kind) ∧ w.cell? ⟨g, k * 4 + 1, none⟩ = some (.string t.text) ∧ w.cell? ⟨g, k * 4 + 2, none⟩ = some (.int .i64 t.num) ∧ w.cell? ⟨g, k * 4 + 3, none⟩ = some (.int .i64 t.pos) := by
  have hk : k < L.length := (List.getElem?_eq_some_iff.1 ht).1
  obtain ⟨g', cap', hsl, _, _, _, hcell⟩ := own_form h (by omega)
  simp only [Value.slice.injEq, Option.some.injEq, Addr.mk.injEq] at hsl
  obtain ⟨⟨rfl, _⟩, _, _⟩ := hsl
  have hg := fun i hi => cellsOf_get L k t ht i hi
  exact ⟨hcell _ _ ((hg 0 (by omega)).trans rfl), hcell _ _ ((hg 1 (by omega)).trans rfl), hcell _ _ ((hg 2 (by omega)).trans rfl), hcell _ _ ((hg 3 (by omega)).trans rfl)⟩

/-- What holds at the head of LexJoined's loop. -/
def JoinRel (A B C : List Lx.Tk) (w : World) (va vb vc : Value) (i : Value) (wr : World) : Prop :=
  ∃ k : Nat, k ≤ C.length ∧ i = .int .i64 k ∧ wr.ownsRow w.heap.size 32 4 va A.length (Lx.cellsOf A) ∧ wr.ownsRow w.heap.size 32 4 vb B.length (Lx.cellsOf B) ∧ wr.ownsRow w.heap.size 32 4 vc C.length (Lx.cellsOf C) ∧ Below w.heap.size w wr

set_option maxRecDepth 100000 in
set_option maxHeartbeats 1000000 in
theorem joined_main (s t : ByteArray) (w : World) (hs : s.size ≤ 6000) (ht : t.size ≤ 6000) (hm : s.size + t.size + 1 ≤ 6000) (P Q : Nat) (hE : Hid ((Lx.lexB s).2 = (0, P))) (hF : Hid ((Lx.lexB t).2 = (0, Q))) :
    Calls Try.prog 4 #[.string s, .string t] w fun e w' => e = .returned (.bool true) ∧ Below w.heap.size w w' := by
  have d6 : decide ((6000 : Int) < (s.size : Int) + (t.size : Int) + 1) = false := by simp; omega
  have hlj := Lx.lexB_join (join_list s t) (by rw [Lx.join_size (join_list s t)]; omega) (by rw [hE.out]) (by rw [hF.out])
  obtain ⟨R, hR⟩ : ∃ R, (Lx.lexB (s ++ ⟨#[10]⟩ ++ t)).2.2 = R := ⟨_, rfl⟩
  have HU : Hid ((Lx.lexB (s ++ ⟨#[10]⟩ ++ t)).2 = (0, R)) := Prod.ext hlj.1 hR
  have HC : Hid ((Lx.lexB (s ++ ⟨#[10]⟩ ++ t)).1 = (Lx.lexB s).1 ++ (Lx.lexB t).1.map (Lx.shift (s.size + 1))) := hlj.2
  have hlA := Lx.lexB_len s
  have hlB := Lx.lexB_len t
  have HPB : Hid (∀ x ∈ (Lx.lexB t).1, x.pos ≤ 6000) := fun x hx => Nat.le_trans (covered_pos _ _ _ (Lx.lexB_covered t (by rw [hF.out])) x hx) ht
  clear hlj hR
  go_enter Try.func4, Try.ntmps4
  go_wp2_with fail
  refine (alive_any w).mono ?_
  rintro e w1 ⟨rfl, hb1⟩
  go_wp2_with fail
  refine (tokens_any s w1 (by unfold maxLen; omega)).mono ?_
  rintro e w2 ⟨va, rfl, hownA, hb2⟩
  rw [hE.out]
  go_wp2_with fail
  refine (tokens_any t _ (by unfold maxLen; omega)).mono ?_
  rintro e w3 ⟨vb, rfl, hownB, hb3⟩
  rw [hF.out]
  have kZ : w3.heap[w2.heap.size]? = some (.cells #[.int .i64 0, .int .i64 P] 25 (0, 0)) := by
    rw [hb3.block _ (by simp)]; exact heap_alloc_new w2 _
  obtain ⟨t0, t1, y0, y1⟩ := two_cell kZ
  have hz := lt_of_block kZ
  have HB : Hid (Below w.heap.size w w3) := ((hb1.trans (hb2.mono hb1.size)).alloc (Nat.le_trans hb1.size hb2.size) _).trans (hb3.mono (by have := hb1.size; have := hb2.size; simp; omega))
  have hsz : w.heap.size ≤ w3.heap.size := HB.out.size
  have HA : Hid (w3.ownsRow w.heap.size 32 4 va (Lx.lexB s).1.length (Lx.cellsOf (Lx.lexB s).1)) := own_below ((own_base hownA hb1.size).alloc _) hb3
  have HBB : Hid (w3.ownsRow w.heap.size 32 4 vb (Lx.lexB t).1.length (Lx.cellsOf (Lx.lexB t).1)) := own_base hownB (by have := hb1.size; have := hb2.size; simp; omega)
  clear kZ hb1 hb2 hb3 hownA hownB
  obtain ⟨A, hA1⟩ : ∃ A, (Lx.lexB s).1 = A := ⟨_, rfl⟩
  obtain ⟨B, hB1⟩ : ∃ B, (Lx.lexB t).1 = B := ⟨_, rfl⟩
  rw [hA1] at HA HC hlA
  rw [hB1] at HBB HC hlB HPB
  clear hA1 hB1
  go_wp2_with fail
  refine (tokens_any _ _ (by rw [Lx.join_size (join_list s t)]; unfold maxLen; omega)).mono ?_
  rintro e w4 ⟨vc, rfl, hownC, hb4⟩
  rw [HU.out]
  rw [HC.out] at hownC
  have HB4 : Hid (Below w.heap.size w w4) := (HB.out.alloc hsz _).trans (hb4.mono (by simp; omega))
  have hsz4 : w.heap.size ≤ w4.heap.size := HB4.out.size
  have HA4 : Hid (w4.ownsRow w.heap.size 32 4 va A.length (Lx.cellsOf A)) := own_below (HA.out.alloc _) hb4
  have HB5 : Hid (w4.ownsRow w.heap.size 32 4 vb B.length (Lx.cellsOf B)) := own_below (HBB.out.alloc _) hb4
  have HC4 : Hid (w4.ownsRow w.heap.size 32 4 vc (A ++ B.map (Lx.shift (s.size + 1))).length (Lx.cellsOf (A ++ B.map (Lx.shift (s.size + 1))))) := own_base hownC (by simp; omega)
  clear hownC hb4 t0 t1 y0 y1
  obtain ⟨la, hla⟩ : ∃ la, A.length = la := ⟨_, rfl⟩
  obtain ⟨lb, hlb⟩ : ∃ lb, B.length = lb := ⟨_, rfl⟩
  obtain ⟨lc, hlc⟩ : ∃ lc, (A ++ B.map (Lx.shift (s.size + 1))).length = lc := ⟨_, rfl⟩
  have hlabc : lc = la + lb := by rw [← hlc, ← hla, ← hlb]; simp
  obtain ⟨aa, capa, rfl⟩ := own_slice HA4.out
  obtain ⟨ab, capb, rfl⟩ := own_slice HB5.out
  obtain ⟨ac, capc, rfl⟩ := own_slice HC4.out
  rw [hla] at hlA
  rw [hlb] at hlB
  rw [hla, hlb, hlc]
  have HLA : Hid (A.length = la) := hla
  have HLB : Hid (B.length = lb) := hlb
  have HLC : Hid ((A ++ B.map (Lx.shift (s.size + 1))).length = lc) := hlc
  have hn : ((lc : Int) != (la : Int) + (lb : Int)) = false := by simp; omega
  have hlc1 : lc ≤ la + lb := by omega
  have hlc2 : la + lb ≤ lc := by omega
  clear hla hlb hlc hlabc
  go_wp2
  go_loopw [66] (fun i wr => JoinRel A B (A ++ B.map (Lx.shift (s.size + 1))) w (.slice aa la capa) (.slice ab lb capb) (.slice ac lc capc) i wr) (fun i _ => lc - (intOf i).toNat)
  case atStart =>
    have e1 := HA4.out.alloc (.cells #[.int .i64 0, .int .i64 R] 25)
    have e2 := HB5.out.alloc (.cells #[.int .i64 0, .int .i64 R] 25)
    have e3 := HC4.out.alloc (.cells #[.int .i64 0, .int .i64 R] 25)
    rw [HLA.out] at e1
    rw [HLB.out] at e2
    rw [HLC.out] at e3
    refine ⟨0, Nat.zero_le _, rfl, ?_, ?_, ?_, HB4.out.alloc hsz4 _⟩
    · rw [HLA.out]; exact e1
    · rw [HLB.out]; exact e2
    · rw [HLC.out]; exact e3
  case round =>
    obtain ⟨k, hk, rfl, hoA, hoB, hoC, hbel⟩ := hrel
    rw [HLC.out] at hk
    have HOA : Hid (wr.ownsRow w.heap.size 32 4 (.slice aa la capa) A.length (Lx.cellsOf A)) := hoA
    have HOB : Hid (wr.ownsRow w.heap.size 32 4 (.slice ab lb capb) B.length (Lx.cellsOf B)) := hoB
    have HOC : Hid (wr.ownsRow w.heap.size 32 4 (.slice ac lc capc) (A ++ B.map (Lx.shift (s.size + 1))).length (Lx.cellsOf (A ++ B.map (Lx.shift (s.size + 1))))) := hoC
    have HBL : Hid (Below w.heap.size w wr) := hbel
    have hszr : w.heap.size ≤ wr.heap.size := hbel.size
    clear hoA hoB hoC hbel
    by_cases hk1 : k < lc
    · obtain ⟨gc, capc', hsl, hcc1, hcc2, hgc1, _⟩ := own_form HOC.out (by rw [HLC.out]; omega)
      simp only [Value.slice.injEq] at hsl
      obtain ⟨rfl, hnn, rfl⟩ := hsl
      rw [HLC.out] at hcc1
      have hgc : gc < wr.heap.size := (HOC.out.lt gc rfl).2
      clear hnn
      by_cases hk2 : k < la
      · obtain ⟨tk, htk⟩ : ∃ tk, A[k]? = some tk := ⟨_, List.getElem?_eq_getElem (by rw [HLA.out]; omega)⟩
        obtain ⟨ga, capa', hsl, hca1, hca2, hga1, _⟩ := own_form HOA.out (by rw [HLA.out]; omega)
        simp only [Value.slice.injEq] at hsl
        obtain ⟨rfl, hnn, rfl⟩ := hsl
        have hga : ga < wr.heap.size := (HOA.out.lt ga rfl).2
        rw [HLA.out] at hca1
        clear hnn
        obtain ⟨a0, a1, a2, a3⟩ := own_tok HOA.out htk
        obtain ⟨c0, c1, c2, c3⟩ := own_tok HOC.out (show (A ++ B.map (Lx.shift (s.size + 1)))[k]? = some tk by rw [List.getElem?_append_left (by rw [HLA.out]; omega)]; exact htk)
        obtain ⟨K, hK⟩ : ∃ K, tk.kind = K := ⟨_, rfl⟩
        obtain ⟨X, hX⟩ : ∃ X, tk.text = X := ⟨_, rfl⟩
        obtain ⟨M, hM⟩ : ∃ M, tk.num = M := ⟨_, rfl⟩
        obtain ⟨p, hp⟩ : ∃ p, tk.pos = p := ⟨_, rfl⟩
        rw [hK] at a0 c0
        rw [hX] at a1 c1
        rw [hM] at a2 c2
        rw [hp] at a3 c3
        clear hK hX hM hp htk
        go_wp2
        go_roundw
        case rel => exact ⟨k + 1, by rw [HLC.out]; omega, by go_num, (HOA.out.alloc _).alloc _, (HOB.out.alloc _).alloc _, (HOC.out.alloc _).alloc _, (HBL.out.alloc hszr _).alloc (by simp; omega) _⟩
        case measure => simp [intOf]; omega
      · obtain ⟨tk, htk⟩ : ∃ tk, B[k - la]? = some tk := ⟨_, List.getElem?_eq_getElem (by rw [HLB.out]; omega)⟩
        obtain ⟨gb, capb', hsl, hca1, hca2, hga1, _⟩ := own_form HOB.out (by rw [HLB.out]; omega)
        simp only [Value.slice.injEq] at hsl
        obtain ⟨rfl, hnn, rfl⟩ := hsl
        have hgb : gb < wr.heap.size := (HOB.out.lt gb rfl).2
        rw [HLB.out] at hca1
        clear hnn
        obtain ⟨a0, a1, a2, a3⟩ := own_tok HOB.out htk
        obtain ⟨c0, c1, c2, c3⟩ := own_tok HOC.out (show (A ++ B.map (Lx.shift (s.size + 1)))[k]? = some (Lx.shift (s.size + 1) tk) by
          rw [List.getElem?_append_right (by rw [HLA.out]; omega), HLA.out, List.getElem?_map, htk]; rfl)
        have e3 : ((Lx.shift (s.size + 1) tk).pos : Int) = (tk.pos : Int) + (s.size : Int) + 1 := by show ((tk.pos + (s.size + 1) : Nat) : Int) = _; omega
        have e0 : (Lx.shift (s.size + 1) tk).kind = tk.kind := rfl
        have e1 : (Lx.shift (s.size + 1) tk).text = tk.text := rfl
        have e2 : (Lx.shift (s.size + 1) tk).num = tk.num := rfl
        rw [e0] at c0
        rw [e1] at c1
        rw [e2] at c2
        rw [e3] at c3
        have hpos : tk.pos ≤ 6000 := HPB.out tk (List.mem_of_getElem? htk)
        obtain ⟨K, hK⟩ : ∃ K, tk.kind = K := ⟨_, rfl⟩
        obtain ⟨X, hX⟩ : ∃ X, tk.text = X := ⟨_, rfl⟩
        obtain ⟨M, hM⟩ : ∃ M, tk.num = M := ⟨_, rfl⟩
        obtain ⟨p, hp⟩ : ∃ p, tk.pos = p := ⟨_, rfl⟩
        rw [hK] at a0 c0
        rw [hX] at a1 c1
        rw [hM] at a2 c2
        rw [hp] at a3 c3 hpos
        clear hK hX hM hp htk e0 e1 e2 e3
        go_wp2
        go_roundw
        case rel => exact ⟨k + 1, by rw [HLC.out]; omega, by go_num, (HOA.out.alloc _).alloc _, (HOB.out.alloc _).alloc _, (HOC.out.alloc _).alloc _, (HBL.out.alloc hszr _).alloc (by simp; omega) _⟩
        case measure => simp [intOf]; omega
    · go_wp2
      go_ret
      exact ⟨rfl, HBL.out⟩

theorem joined_any (s t : ByteArray) (w : World) (hs : s.size ≤ maxLen) (ht : t.size ≤ maxLen) :
    Calls Try.prog 4 #[.string s, .string t] w fun e w' => e = .returned (.bool true) ∧ Below w.heap.size w w' := by
  obtain ⟨E, P, hE⟩ : ∃ E P, (Lx.lexB s).2 = (E, P) := ⟨_, _, rfl⟩
  obtain ⟨F, Q, hF⟩ : ∃ F Q, (Lx.lexB t).2 = (F, Q) := ⟨_, _, rfl⟩
  by_cases h1 : E = 0
  · by_cases h2 : F = 0
    · subst h1 h2
      have hs6 := lexB_size (s := s) (by rw [hE])
      have ht6 := lexB_size (s := t) (by rw [hF])
      by_cases h3 : 6000 < s.size + t.size + 1
      · exact joined_early s t w hs ht 0 0 P Q hE hF (.inr (.inr ⟨rfl, rfl, hs6, ht6, h3⟩))
      · exact joined_main s t w hs6 ht6 (by omega) P Q hE hF
    · exact joined_early s t w hs ht E F P Q hE hF (.inr (.inl ⟨h1, h2⟩))
  · exact joined_early s t w hs ht E F P Q hE hF (.inl h1)

end Go.Proofs.Ytfmkhdncbdkpoaa
