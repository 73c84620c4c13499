/- The walks of head, instr and unit of the listing's writer. -/
import Derived.Test.YtlicfdligldhdaaDoorM27
import Derived.Test.YtlicfdligldhdaaDoorM28
namespace Go.Proofs.YtlicfdligldhdaaDoor.Aw
open Go.RowKit As

abbrev unV (u : Vf.Un) (al ac : Option Addr) (cl cc : Nat) : Value := .agg #[.int .i64 u.kind, .int .i64 u.params, .slice al u.locals.length cl, .int .i64 u.result, .int .i64 u.takes, .slice ac u.code.length cc]
theorem put1q_any (B S U J : Nat) (x xs : By) (w : World) (q : Nat) (hq : q = w.heap.size) (h : Hid (WR w B S U J xs)) (hx : Hid (x.length ≤ 10)) (hf : Hid (xs.length ≤ 60060)) :
    Calls Tryd.prog 21 #[.pointer (some ⟨S, 0, none⟩), .slice (some ⟨q, 0, none⟩) 1 1] (w.alloc (.cells #[sv x] 9)) fun e w' => e = .returned (.tuple #[]) ∧ Wrote B S U J (xs ++ x) w w' := by
  subst hq
  exact put1_any B S U J x xs w h hx hf

set_option maxHeartbeats 1000000 in
theorem head_any (B S U J : Nat) (x : By) (u : Vf.Un) (al ac : Option Addr) (cl cc : Nat) (xs : By) (w : World) (hx : Hid (x.length ≤ 10)) (hg : Hid (GV B w)) (hin : Hid (UnIn B w u al ac cl cc)) (h : Hid (WR w B S U J xs)) (hf : Hid (xs.length ≤ 60000)) :
    Calls Tryd.prog 24 #[.pointer (some ⟨S, 0, none⟩), sv x, unV u al ac cl cc] w fun e w' => e = .returned (.tuple #[]) ∧ Wrote B S U J (wHead xs x u) w w' := by
  have H3 : Hid (I64 u.params ∧ I64 u.result ∧ I64 u.takes) := ⟨hin.out.nums.2.1, hin.out.nums.2.2.1, hin.out.nums.2.2.2⟩
  have hlen := hin.out.few.1
  have HF60 : Hid (xs.length ≤ 60060) := by unfold Hid; have := hf.out; omega
  have HA1 : Hid ((w.alloc (unO u al ac cl cc)).heap[w.heap.size]? = some (unO u al ac cl cc)) := heap_alloc_new _ _
  have HK1 : Hid (Kp B w (w.alloc (unO u al ac cl cc))) := kp_alloc h.out.ge _
  have HW1 : Hid (WR (w.alloc (unO u al ac cl cc)) B S U J xs) := h.out.alloc _
  go_enter Tryd.func24, Tryd.ntmps24
  go_wp2_with fail
  refine (put1q_any B S U J x xs (w.alloc (unO u al ac cl cc)) (w.heap.size + 1) (by simp) HW1 hx HF60).mono ?_
  rintro e w2 ⟨rfl, hw2⟩
  have HA2 := hide (hw2.kp.blk _ _ _ _ HA1.out (by decide) (by decide))
  have HK2 := hide (HK1.out.trans hw2.kp)
  have HW2 := hide hw2.wr
  obtain ⟨c0, c1, c2, c3, c4, c5⟩ := un_cells HA2.out
  clear hw2 HA1 HK1 HW1
  go_wp2_with fail
  refine (ints_any B S U J [u.params, u.result, u.takes] (some ⟨w2.heap.size, 0, none⟩) 3 (by simp) (xs ++ x) (w2.alloc (.cells #[.int .i64 u.params, .int .i64 u.result, .int .i64 u.takes] 3)) (hide (hg.out.kp (HK2.out.alloc HW2.out.ge _))) (hide (ints3 B w2 _ _ _ H3.out)) (hide (HW2.out.alloc _)) (hide (by have := hx.out; have := hf.out; simp; omega)) (wInts (xs ++ x) [u.params, u.result, u.takes]) (hide rfl)).mono ?_
  rintro e w3 ⟨rfl, hw3⟩
  have HA3 := hide (((kp_alloc HW2.out.ge _).trans hw3.kp).blk _ _ _ _ HA2.out (by decide) (by decide))
  have HK3 := hide ((HK2.out.alloc HW2.out.ge _).trans hw3.kp)
  have HW3 := hide hw3.wr
  clear hw3 HA2 HK2 HW2 c0 c1 c2 c3 c4 c5
  obtain ⟨c0, c1, c2, c3, c4, c5⟩ := un_cells HA3.out
  have HL3 : Hid ((wInts (xs ++ x) [u.params, u.result, u.takes]).length ≤ 60040) := wInts_len1 (xs := xs ++ x) (all3 H3.out) (by have := hx.out; have := hf.out; simp; omega)
  have HEQ : Hid (∃ ts, ts = wInts (xs ++ x) [u.params, u.result, u.takes]) := ⟨_, rfl⟩
  obtain ⟨ts, hts⟩ := HEQ.out
  rw [← hts] at HW3 HL3
  have HT := hide hts
  clear hts HEQ
  go_wp2_with fail
  refine (ints_any B S U J u.locals al cl hlen ts w3 (hide (hg.out.kp HK3.out)) (hide ((ints_in hin.out.locals).kp HK3.out)) HW3 HL3 (wInts ts u.locals) (hide rfl)).mono ?_
  rintro e w4 ⟨rfl, hw4⟩
  have HK4 := hide (HK3.out.trans hw4.kp)
  have HW4 := hide hw4.wr
  clear hw4 c0 c1 c2 c3 c4 c5 HA3
  have HL4 : Hid ((wInts ts u.locals).length ≤ 60060) := by
    have := wInts_len1 (xs := ts) (l := u.locals) (fun n hn => by
      obtain ⟨i, hi, rfl⟩ := List.getElem_of_mem hn
      exact (hin.out.locals i _ (List.getElem?_eq_getElem hi)).1) HL3.out
    unfold Hid
    omega
  have HR0 : Hid (wHead xs x u = wInts ts u.locals ++ [10]) := by unfold Hid; rw [HT.out]; rfl
  generalize wInts ts u.locals = rs at HW4 HL4 HR0
  go_wp2_with fail
  refine (put1_any B S U J [10] rs w4 HW4 (hide (by decide)) HL4).mono ?_
  rintro e w5 ⟨rfl, hw5⟩
  have HR : Hid (Wrote B S U J (wHead xs x u) w w5) := by unfold Hid; rw [HR0.out]; exact ⟨HK4.out.trans hw5.kp, hw5.wr⟩
  clear hw5
  go_wp2
  go_end0
  exact ⟨rfl, HR.out⟩

theorem in_cells {w : World} {N : Nat} {x : Vf.Ins} (h : w.heap[N]? = some (.cells #[.int .i64 x.op, .int .i64 x.a, .int .i64 x.n] 45 (0, 0))) : w.cell? ⟨N, 0, none⟩ = some (.int .i64 x.op) ∧ w.cell? ⟨N, 1, none⟩ = some (.int .i64 x.a) ∧ w.cell? ⟨N, 2, none⟩ = some (.int .i64 x.n) := by
  simp [World.cell?, h]
abbrev inV (i : Vf.Ins) : Value := .agg #[.int .i64 i.op, .int .i64 i.a, .int .i64 i.n]
abbrev inO (i : Vf.Ins) : Obj := .cells #[.int .i64 i.op, .int .i64 i.a, .int .i64 i.n] 45 (0, 0)
theorem wIns_len {xs w : By} {k : Int} {i : Vf.Ins} (hw : w.length ≤ 6) (h : I64 i.a ∧ I64 i.n) (hx : xs.length ≤ 60060) : (wIns xs w k i).length ≤ 60060 := by
  unfold wIns
  split
  · exact hx
  · rename_i hf
    have hf' := full_no (by simpa using hf)
    have h1 := wNum_len (xs := xs ++ 9 :: w) (i64_of h.2)
    have h2 := wInts_len1 (xs := xs ++ 9 :: w) (l := [i.a]) (by simpa using h.1) (by simp; omega)
    simp at h1
    split
    · simp; omega
    · split
      · simp; omega
      · simp; omega
set_option maxHeartbeats 1000000 in
theorem instr_any (B S U J : Nat) (x : By) (i : Vf.Ins) (k : Int) (hk : Hid (k = nOf i.op)) (xs : By) (w : World) (hx : Hid (x.length ≤ 6)) (hi : Hid (I64 i.a ∧ I64 i.n)) (hg : Hid (GV B w)) (h : Hid (WR w B S U J xs)) (_hf : Hid (xs.length ≤ 60060)) :
    Calls Tryd.prog 25 #[.pointer (some ⟨S, 0, none⟩), sv x, inV i] w fun e w' => e = .returned (.tuple #[]) ∧ Wrote B S U J (wIns xs x k i) w w' := by
  have HA1 : Hid ((w.alloc (inO i)).heap[w.heap.size]? = some (inO i)) := heap_alloc_new _ _
  have HK1 : Hid (Kp B w (w.alloc (inO i))) := kp_alloc h.out.ge _
  have HW1 : Hid (WR (w.alloc (inO i)) B S U J xs) := h.out.alloc _
  go_enter Tryd.func25, Tryd.ntmps25
  go_wp2_with fail
  refine (full_any B S U J xs _ HW1 (full xs) (hide rfl)).mono ?_
  rintro e w1 ⟨rfl, rfl⟩
  generalize w.alloc (inO i) = V at HA1 HK1 HW1 ⊢
  generalize w.heap.size = N at HA1 ⊢
  cases hfz : full xs with
  | true =>
    have HR : Hid (Wrote B S U J (wIns xs x k i) w V) := by unfold wIns; rw [if_pos hfz]; exact ⟨HK1.out, HW1.out⟩
    clear hfz
    go_wp2
    exact bodyPost_ret (v := .tuple #[]) (by simp [results, Tryd.results25, go_sem]) rfl ⟨rfl, HR.out⟩
  | false =>
    have HF := hide hfz
    have HXL := hide (full_no hfz)
    clear hfz
    go_wp2_with fail
    refine (put2_any B S U J [9] x xs V HW1 (hide (by have := hx.out; simp; omega)) (hide (Nat.le_trans HXL.out (by decide)))).mono ?_
    rintro e w2 ⟨rfl, hw2⟩
    have HA2 := hide (hw2.kp.blk _ _ _ _ HA1.out (by decide) (by decide))
    have HK2 := hide (HK1.out.trans hw2.kp)
    have HW2 : Hid (WR w2 B S U J (xs ++ 9 :: x)) := hw2.wr
    obtain ⟨c0, c1, c2⟩ := in_cells HA2.out
    clear hw2 HA1 HK1 HW1
    go_wp2_with fail
    refine (numberOf_any i.op _ k hk).mono ?_
    rintro e w3 ⟨rfl, rfl⟩
    have HL2 : Hid ((xs ++ 9 :: x).length ≤ 60010) := by unfold Hid; have := hx.out; have := HXL.out; simp; omega
    by_cases h1 : k = 1
    · have e1 : (k == 1) = true := by simp [h1]
      have HEQ : Hid (wIns xs x k i = wNum (xs ++ 9 :: x) i.n ++ [10]) := by unfold Hid wIns; rw [if_neg (by rw [HF.out]; decide), if_pos h1]
      have HQL : Hid ((wNum (xs ++ 9 :: x) i.n).length ≤ 60060) := by unfold Hid; have h1 := wNum_len (xs := xs ++ 9 :: x) (i64_of hi.out.2); have := HL2.out; omega
      clear h1
      go_wp2_with fail
      refine (number_any B S U J i.n (hide hi.out.2) (xs ++ 9 :: x) w3 (hide (hg.out.kp HK2.out)) HW2 (hide (Nat.le_trans HL2.out (by decide)))).mono ?_
      rintro e w4 ⟨rfl, hw4⟩
      have HK4 := hide (HK2.out.trans hw4.kp)
      have HW4 := hide hw4.wr
      clear hw4 HK2 HW2 c0 c1 c2 HA2
      generalize wNum (xs ++ 9 :: x) i.n = rs at HW4 HEQ HQL
      go_wp2_with fail
      refine (put1_any B S U J [10] rs w4 HW4 (hide (by decide)) HQL).mono ?_
      rintro e w5 ⟨rfl, hw5⟩
      have HR : Hid (Wrote B S U J (wIns xs x k i) w w5) := by unfold Hid; rw [HEQ.out]; exact ⟨HK4.out.trans hw5.kp, hw5.wr⟩
      clear hw5
      go_wp2
      go_end0
      exact ⟨rfl, HR.out⟩
    · have e1 : (k == 1) = false := by simp [h1]
      by_cases h2 : k = 2
      · have e2 : (k == 2) = true := by simp [h2]
        have HEQ : Hid (wIns xs x k i = wInts (xs ++ 9 :: x) [i.a] ++ [10]) := by unfold Hid wIns; rw [if_neg (by rw [HF.out]; decide), if_neg h1, if_pos h2]
        have HQL : Hid ((wInts (xs ++ 9 :: x) [i.a]).length ≤ 60060) := by unfold Hid; have h1 := wInts_len1 (xs := xs ++ 9 :: x) (l := [i.a]) (by simpa using hi.out.1) (by have := HL2.out; omega); omega
        clear h1 h2
        go_wp2_with fail
        refine (ints_any B S U J [i.a] (some ⟨w3.heap.size, 0, none⟩) 1 (by simp) (xs ++ 9 :: x) (w3.alloc (.cells #[.int .i64 i.a] 3)) (hide (hg.out.kp (HK2.out.alloc HW2.out.ge _))) (hide (ints1 B w3 _ hi.out.1)) (hide (HW2.out.alloc _)) (hide (Nat.le_trans HL2.out (by decide))) (wInts (xs ++ 9 :: x) [i.a]) (hide rfl)).mono ?_
        rintro e w4 ⟨rfl, hw4⟩
        have HK4 := hide ((HK2.out.alloc HW2.out.ge _).trans hw4.kp)
        have HW4 := hide hw4.wr
        clear hw4 HK2 HW2 c0 c1 c2 HA2
        generalize wInts (xs ++ 9 :: x) [i.a] = rs at HW4 HEQ HQL
        go_wp2_with fail
        refine (put1_any B S U J [10] rs w4 HW4 (hide (by decide)) HQL).mono ?_
        rintro e w5 ⟨rfl, hw5⟩
        have HR : Hid (Wrote B S U J (wIns xs x k i) w w5) := by unfold Hid; rw [HEQ.out]; exact ⟨HK4.out.trans hw5.kp, hw5.wr⟩
        clear hw5
        go_wp2
        go_end0
        exact ⟨rfl, HR.out⟩
      · have e2 : (k == 2) = false := by simp [h2]
        have HEQ : Hid (wIns xs x k i = (xs ++ 9 :: x) ++ [10]) := by unfold Hid wIns; rw [if_neg (by rw [HF.out]; decide), if_neg h1, if_neg h2]
        clear h1 h2
        generalize xs ++ 9 :: x = rs at HW2 HEQ HL2
        go_wp2_with fail
        refine (put1_any B S U J [10] rs w3 HW2 (hide (by decide)) (hide (Nat.le_trans HL2.out (by decide)))).mono ?_
        rintro e w5 ⟨rfl, hw5⟩
        have HR : Hid (Wrote B S U J (wIns xs x k i) w w5) := by unfold Hid; rw [HEQ.out]; exact ⟨HK2.out.trans hw5.kp, hw5.wr⟩
        clear hw5
        go_wp2
        go_end0
        exact ⟨rfl, HR.out⟩

end Go.Proofs.YtlicfdligldhdaaDoor.Aw

