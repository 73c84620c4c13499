/- The walks of head, instr and unit of the listing's writer. -/
import Derived.Test.YtbdcmkmeljddmaaGreatDoorM14
namespace Go.Proofs.YtbdcmkmeljddmaaGreatDoor.Aw
open Go.RowKit As

abbrev unV (u : Vf.Un) (al ac : Option Addr) (cl cc : Nat) : Value := .agg #[.int .i64 u.kind, .int .i64 u.params, .slice al u.locals.length cl, .int .i64 u.result, .int .i64 u.takes, .slice ac u.code.length cc]
theorem put1q_any (B S U J : Nat) (x xs : By) (w : World) (q : Nat) (hq : q = w.heap.size) (h : Hid (WR w B S U J xs)) (hx : Hid (x.length ≤ 10)) (hf : Hid (xs.length ≤ 60060)) :
    Calls Tryz.prog 24 #[.pointer (some ⟨S, 0, none⟩), .slice (some ⟨q, 0, none⟩) 1 1] (w.alloc (.cells #[sv x] 9)) fun e w' => e = .returned (.tuple #[]) ∧ Wrote B S U J (xs ++ x) w w' := by
  subst hq
  exact put1_any B S U J x xs w h hx hf

set_option maxHeartbeats 1000000 in
theorem head_any (B S U J : Nat) (x : By) (u : Vf.Un) (al ac : Option Addr) (cl cc : Nat) (xs : By) (w : World) (hx : Hid (x.length ≤ 10)) (hg : Hid (GV B w)) (hin : Hid (UnIn B w u al ac cl cc)) (h : Hid (WR w B S U J xs)) (hf : Hid (xs.length ≤ 60000)) :
    Calls Tryz.prog 27 #[.pointer (some ⟨S, 0, none⟩), sv x, unV u al ac cl cc] w fun e w' => e = .returned (.tuple #[]) ∧ Wrote B S U J (wHead xs x u) w w' := by
  have H3 : Hid (I64 u.params ∧ I64 u.result ∧ I64 u.takes) := ⟨hin.out.nums.2.1, hin.out.nums.2.2.1, hin.out.nums.2.2.2⟩
  have hlen := hin.out.few.1
  have HF60 : Hid (xs.length ≤ 60060) := by unfold Hid; have := hf.out; omega
  have HA1 : Hid ((w.alloc (unO u al ac cl cc)).heap[w.heap.size]? = some (unO u al ac cl cc)) := heap_alloc_new _ _
  have HK1 : Hid (Kp B w (w.alloc (unO u al ac cl cc))) := kp_alloc h.out.ge _
  have HW1 : Hid (WR (w.alloc (unO u al ac cl cc)) B S U J xs) := h.out.alloc _
  go_enter Tryz.func27, Tryz.ntmps27
  go_wp2_with fail
  refine (put1q_any B S U J x xs (w.alloc (unO u al ac cl cc)) (w.heap.size + 1) (by simp) HW1 hx HF60).mono ?_
  rintro e w2 ⟨rfl, hw2⟩
  have HA2 := hide (hw2.kp.blk _ _ _ _ HA1.out (by decide) (by decide))
  have HK2 := hide (HK1.out.trans hw2.kp)
  have HW2 := hide hw2.wr
  obtain ⟨c0, c1, c2, c3, c4, c5⟩ := un_cells HA2.out
  clear hw2 HA1 HK1 HW1
  go_wp2_with fail
  refine (ints_any B S U J [u.params, u.result, u.takes] (some ⟨w2.heap.size, 0, none⟩) 3 (by simp) (xs ++ x) (w2.alloc (.cells #[.int .i64 u.params, .int .i64 u.result, .int .i64 u.takes] 3)) (hide (hg.out.kp (HK2.out.alloc HW2.out.ge _))) (hide (ints3 B w2 _ _ _ H3.out)) (hide (HW2.out.alloc _)) (hide (by have := hx.out; have := hf.out; simp; omega)) (wInts (xs ++ x) [u.params, u.result, u.takes]) (hide rfl)).mono ?_
  rintro e w3 ⟨rfl, hw3⟩
  have HA3 := hide (((kp_alloc HW2.out.ge _).trans hw3.kp).blk _ _ _ _ HA2.out (by decide) (by decide))
  have HK3 := hide ((HK2.out.alloc HW2.out.ge _).trans hw3.kp)
  have HW3 := hide hw3.wr
  clear hw3 HA2 HK2 HW2 c0 c1 c2 c3 c4 c5
  obtain ⟨c0, c1, c2, c3, c4, c5⟩ := un_cells HA3.out
  have HL3 : Hid ((wInts (xs ++ x) [u.params, u.result, u.takes]).length ≤ 60040) := wInts_len1 (xs := xs ++ x) (all3 H3.out) (by have := hx.out; have := hf.out; simp; omega)
  have HEQ : Hid (∃ ts, ts = wInts (xs ++ x) [u.params, u.result, u.takes]) := ⟨_, rfl⟩
  obtain ⟨ts, hts⟩ := HEQ.out
  rw [← hts] at HW3 HL3
  have HT := hide hts
  clear hts HEQ
  go_wp2_with fail
  refine (ints_any B S U J u.locals al cl hlen ts w3 (hide (hg.out.kp HK3.out)) (hide ((ints_in hin.out.locals).kp HK3.out)) HW3 HL3 (wInts ts u.locals) (hide rfl)).mono ?_
  rintro e w4 ⟨rfl, hw4⟩
  have HK4 := hide (HK3.out.trans hw4.kp)
  have HW4 := hide hw4.wr
  clear hw4 c0 c1 c2 c3 c4 c5 HA3
  have HL4 : Hid ((wInts ts u.locals).length ≤ 60060) := by
    have := wInts_len1 (xs := ts) (l := u.locals) (fun n hn => by
      obtain ⟨i, hi, rfl⟩ := List.getElem_of_mem hn
      exact (hin.out.locals i _ (List.getElem?_eq_getElem hi)).1) HL3.out
    unfold Hid
    omega
  have HR0 : Hid (wHead xs x u = wInts ts u.locals ++ [10]) := by unfold Hid; rw [HT.out]; rfl
  generalize wInts ts u.locals = rs at HW4 HL4 HR0
  go_wp2_with fail
  refine (put1_any B S U J [10] rs w4 HW4 (hide (by decide)) HL4).mono ?_
  rintro e w5 ⟨rfl, hw5⟩
  have HR : Hid (Wrote B S U J (wHead xs x u) w w5) := by unfold Hid; rw [HR0.out]; exact ⟨HK4.out.trans hw5.kp, hw5.wr⟩
  clear hw5
  go_wp2
  go_end0
  exact ⟨rfl, HR.out⟩

theorem in_cells {w : World} {N : Nat} {x : Vf.Ins} (h : w.heap[N]? = some (.cells #[.int .i64 x.op, .int .i64 x.a, .int .i64 x.n] 43 (0, 0))) : w.cell? ⟨N, 0, none⟩ = some (.int .i64 x.op) ∧ w.cell? ⟨N, 1, none⟩ = some (.int .i64 x.a) ∧ w.cell? ⟨N, 2, none⟩ = some (.int .i64 x.n) := by
  simp [World.cell?, h]
abbrev inV (i : Vf.Ins) : Value := .agg #[.int .i64 i.op, .int .i64 i.a, .int .i64 i.n]
abbrev inO (i : Vf.Ins) : Obj := .cells #[.int .i64 i.op, .int .i64 i.a, .int .i64 i.n] 43 (0, 0)
theorem wIns_len {xs w : By} {k : Int} {i : Vf.Ins} (hw : w.length ≤ 6) (h : I64 i.a ∧ I64 i.n) (hx : xs.length ≤ 60060) : (wIns xs w k i).length ≤ 60060 := by
  unfold wIns
  split
  · exact hx
  · rename_i hf
    have hf' := full_no (by simpa using hf)
    have h1 := wNum_len (xs := xs ++ 9 :: w) (i64_of h.2)
    have h2 := wInts_len1 (xs := xs ++ 9 :: w) (l := [i.a]) (by simpa using h.1) (by simp; omega)
    simp at h1
    split
    · simp; omega
    · split
      · simp; omega
      · simp; omega
set_option maxHeartbeats 1000000 in
theorem instr_any (B S U J : Nat) (x : By) (i : Vf.Ins) (k : Int) (hk : Hid (k = nOf i.op)) (xs : By) (w : World) (hx : Hid (x.length ≤ 6)) (hi : Hid (I64 i.a ∧ I64 i.n)) (hg : Hid (GV B w)) (h : Hid (WR w B S U J xs)) (_hf : Hid (xs.length ≤ 60060)) :
    Calls Tryz.prog 28 #[.pointer (some ⟨S, 0, none⟩), sv x, inV i] w fun e w' => e = .returned (.tuple #[]) ∧ Wrote B S U J (wIns xs x k i) w w' := by
  have HA1 : Hid ((w.alloc (inO i)).heap[w.heap.size]? = some (inO i)) := heap_alloc_new _ _
  have HK1 : Hid (Kp B w (w.alloc (inO i))) := kp_alloc h.out.ge _
  have HW1 : Hid (WR (w.alloc (inO i)) B S U J xs) := h.out.alloc _
  go_enter Tryz.func28, Tryz.ntmps28
  go_wp2_with fail
  refine (full_any B S U J xs _ HW1 (full xs) (hide rfl)).mono ?_
  rintro e w1 ⟨rfl, rfl⟩
  generalize w.alloc (inO i) = V at HA1 HK1 HW1 ⊢
  generalize w.heap.size = N at HA1 ⊢
  cases hfz : full xs with
  | true =>
    have HR : Hid (Wrote B S U J (wIns xs x k i) w V) := by unfold wIns; rw [if_pos hfz]; exact ⟨HK1.out, HW1.out⟩
    clear hfz
    go_wp2
    exact bodyPost_ret (v := .tuple #[]) (by simp [results, Tryz.results28, go_sem]) rfl ⟨rfl, HR.out⟩
  | false =>
    have HF := hide hfz
    have HXL := hide (full_no hfz)
    clear hfz
    go_wp2_with fail
    refine (put2_any B S U J [9] x xs V HW1 (hide (by have := hx.out; simp; omega)) (hide (Nat.le_trans HXL.out (by decide)))).mono ?_
    rintro e w2 ⟨rfl, hw2⟩
    have HA2 := hide (hw2.kp.blk _ _ _ _ HA1.out (by decide) (by decide))
    have HK2 := hide (HK1.out.trans hw2.kp)
    have HW2 : Hid (WR w2 B S U J (xs ++ 9 :: x)) := hw2.wr
    obtain ⟨c0, c1, c2⟩ := in_cells HA2.out
    clear hw2 HA1 HK1 HW1
    go_wp2_with fail
    refine (numberOf_any i.op _ k hk).mono ?_
    rintro e w3 ⟨rfl, rfl⟩
    have HL2 : Hid ((xs ++ 9 :: x).length ≤ 60010) := by unfold Hid; have := hx.out; have := HXL.out; simp; omega
    by_cases h1 : k = 1
    · have e1 : (k == 1) = true := by simp [h1]
      have HEQ : Hid (wIns xs x k i = wNum (xs ++ 9 :: x) i.n ++ [10]) := by unfold Hid wIns; rw [if_neg (by rw [HF.out]; decide), if_pos h1]
      have HQL : Hid ((wNum (xs ++ 9 :: x) i.n).length ≤ 60060) := by unfold Hid; have h1 := wNum_len (xs := xs ++ 9 :: x) (i64_of hi.out.2); have := HL2.out; omega
      clear h1
      go_wp2_with fail
      refine (number_any B S U J i.n (hide hi.out.2) (xs ++ 9 :: x) w3 (hide (hg.out.kp HK2.out)) HW2 (hide (Nat.le_trans HL2.out (by decide)))).mono ?_
      rintro e w4 ⟨rfl, hw4⟩
      have HK4 := hide (HK2.out.trans hw4.kp)
      have HW4 := hide hw4.wr
      clear hw4 HK2 HW2 c0 c1 c2 HA2
      generalize wNum (xs ++ 9 :: x) i.n = rs at HW4 HEQ HQL
      go_wp2_with fail
      refine (put1_any B S U J [10] rs w4 HW4 (hide (by decide)) HQL).mono ?_
      rintro e w5 ⟨rfl, hw5⟩
      have HR : Hid (Wrote B S U J (wIns xs x k i) w w5) := by unfold Hid; rw [HEQ.out]; exact ⟨HK4.out.trans hw5.kp, hw5.wr⟩
      clear hw5
      go_wp2
      go_end0
      exact ⟨rfl, HR.out⟩
    · have e1 : (k == 1) = false := by simp [h1]
      by_cases h2 : k = 2
      · have e2 : (k == 2) = true := by simp [h2]
        have HEQ : Hid (wIns xs x k i = wInts (xs ++ 9 :: x) [i.a] ++ [10]) := by unfold Hid wIns; rw [if_neg (by rw [HF.out]; decide), if_neg h1, if_pos h2]
        have HQL : Hid ((wInts (xs ++ 9 :: x) [i.a]).length ≤ 60060) := by unfold Hid; have h1 := wInts_len1 (xs := xs ++ 9 :: x) (l := [i.a]) (by simpa using hi.out.1) (by have := HL2.out; omega); omega
        clear h1 h2
        go_wp2_with fail
        refine (ints_any B S U J [i.a] (some ⟨w3.heap.size, 0, none⟩) 1 (by simp) (xs ++ 9 :: x) (w3.alloc (.cells #[.int .i64 i.a] 3)) (hide (hg.out.kp (HK2.out.alloc HW2.out.ge _))) (hide (ints1 B w3 _ hi.out.1)) (hide (HW2.out.alloc _)) (hide (Nat.le_trans HL2.out (by decide))) (wInts (xs ++ 9 :: x) [i.a]) (hide rfl)).mono ?_
        rintro e w4 ⟨rfl, hw4⟩
        have HK4 := hide ((HK2.out.alloc HW2.out.ge _).trans hw4.kp)
        have HW4 := hide hw4.wr
        clear hw4 HK2 HW2 c0 c1 c2 HA2
        generalize wInts (xs ++ 9 :: x) [i.a] = rs at HW4 HEQ HQL
        go_wp2_with fail
        refine (put1_any B S U J [10] rs w4 HW4 (hide (by decide)) HQL).mono ?_
        rintro e w5 ⟨rfl, hw5⟩
        have HR : Hid (Wrote B S U J (wIns xs x k i) w w5) := by unfold Hid; rw [HEQ.out]; exact ⟨HK4.out.trans hw5.kp, hw5.wr⟩
        clear hw5
        go_wp2
        go_end0
        exact ⟨rfl, HR.out⟩
      · have e2 : (k == 2) = false := by simp [h2]
        have HEQ : Hid (wIns xs x k i = (xs ++ 9 :: x) ++ [10]) := by unfold Hid wIns; rw [if_neg (by rw [HF.out]; decide), if_neg h1, if_neg h2]
        clear h1 h2
        generalize xs ++ 9 :: x = rs at HW2 HEQ HL2
        go_wp2_with fail
        refine (put1_any B S U J [10] rs w3 HW2 (hide (by decide)) (hide (Nat.le_trans HL2.out (by decide)))).mono ?_
        rintro e w5 ⟨rfl, hw5⟩
        have HR : Hid (Wrote B S U J (wIns xs x k i) w w5) := by unfold Hid; rw [HEQ.out]; exact ⟨HK2.out.trans hw5.kp, hw5.wr⟩
        clear hw5
        go_wp2
        go_end0
        exact ⟨rfl, HR.out⟩

end Go.Proofs.YtbdcmkmeljddmaaGreatDoor.Aw

/- The walk of unit of the listing's writer. -/
namespace Go.Proofs.YtbdcmkmeljddmaaGreatDoor.Aw
open Go.RowKit As

def unitR (T : By) (n : Nat) (u : Vf.Un) : Nat × Nat × Nat :=
  if (headW u.kind).isSome = true then match badI u.code 0 with
    | some j => (1, n, j)
    | none => if 60000 < (T ++ text (linesU u)).length then (4, 0, 0) else (0, 0, 0)
  else (1, n, 0)

/-- So, where nothing is wrong. -/
def WhenOk (er : Nat) (P : Prop) : Prop := er = 0 → P
abbrev set3 (W : World) (k : Nat) (a b c : Value) : World := ((W.setCell ⟨k, 0, none⟩ a).setCell ⟨k, 1, none⟩ b).setCell ⟨k, 2, none⟩ c
theorem set3_far (W : World) (k : Nat) (a b c : Value) {j : Nat} (h : j ≠ k) : (set3 W k a b c).heap[j]? = W.heap[j]? := by
  rw [Below.heap_setCell _ ⟨k, 2, none⟩ _ _ h, Below.heap_setCell _ ⟨k, 1, none⟩ _ _ h, Below.heap_setCell _ ⟨k, 0, none⟩ _ _ h]
theorem set3_size (W : World) (k : Nat) (a b c : Value) : (set3 W k a b c).heap.size = W.heap.size := by simp [World.setCell]
theorem Kp.set3 {B k : Nat} {w W : World} (h : Kp B w W) (hk : w.heap.size ≤ k) (hB : B ≤ k) (a b c : Value) : Kp B w (set3 W k a b c) :=
  ⟨((h.below.setCell (p := ⟨k, 0, none⟩) hB _).setCell (p := ⟨k, 1, none⟩) hB _).setCell (p := ⟨k, 2, none⟩) hB _, by rw [set3_size]; exact h.size, fun j cs t fr hj h1 h2 => (set3_far W k a b c (by have := lt_of_block hj; omega)).trans (h.blk j cs t fr hj h1 h2)⟩
theorem WR.set3 {B S U J k : Nat} {xs : By} {W : World} (h : WR W B S U J xs) {cs : Array Value} {fr : Nat × Nat} (hk : W.heap[k]? = some (.cells cs 29 fr)) (a b c : Value) : WR (set3 W k a b c) B S U J xs := by
  obtain ⟨v, h1, h2⟩ := h.row
  have ne : ∀ {j : Nat} {cs' : Array Value} {t : TypeId} {fr' : Nat × Nat}, W.heap[j]? = some (.cells cs' t fr') → t ≠ 29 → (Go.Proofs.YtbdcmkmeljddmaaGreatDoor.Aw.set3 W k a b c).heap[j]? = some (.cells cs' t fr') := fun hj ht => (set3_far W k a b c (fun e => by
    subst e
    rw [hk] at hj
    simp at hj
    exact ht hj.2.1.symm)).trans hj
  exact ⟨⟨v, ne h1 (by decide), own_keep h2 (fun j hj => set3_far W k a b c (fun e => by subst e; exact own_ty h2 hk (by decide) hj))⟩, h.base, ne h.us (by decide), ne h.js (by decide)⟩
theorem wh_cells {w : World} {k : Nat} (h : w.heap[k]? = some (.cells #[.int .i64 0, .int .i64 0, .int .i64 0] 29 (0, 0))) : w.cell? ⟨k, 0, none⟩ = some (.int .i64 0) ∧ w.cell? ⟨k, 1, none⟩ = some (.int .i64 0) ∧ w.cell? ⟨k, 2, none⟩ = some (.int .i64 0) ∧ w.frozen? ⟨k, 0, none⟩ = false ∧ w.frozen? ⟨k, 1, none⟩ = false ∧ w.frozen? ⟨k, 2, none⟩ = false := by
  simp [World.cell?, World.frozen?, h]
theorem tab_len : ∀ x ∈ tab, x.1.length ≤ 6 := by decide
theorem word_len {op : Int} {x : By} {h : Nat} (e : wordOf op = some (x, h)) : x.length ≤ 6 := by
  unfold wordOf at e
  split at e
  · exact tab_len _ (List.mem_of_getElem? e)
  · cases e
theorem head_len {k : Int} {x : By} (e : headW k = some x) : x.length ≤ 10 := by
  unfold headW at e
  split at e
  · cases e; decide
  split at e
  · cases e; decide
  split at e
  · cases e; decide
  · cases e
theorem bad_at : ∀ (l : List Vf.Ins) (k j : Nat) (c : Vf.Ins), l[k]? = some c → wordOf c.op = none → (∀ (i : Nat) (d : Vf.Ins), i < k → l[i]? = some d → (wordOf d.op).isSome = true) → badI l j = some (j + k)
  | [], k, j, c, h, _, _ => by simp at h
  | x :: l, 0, j, c, h, hn, _ => by
    simp at h
    subst h
    unfold badI
    rw [hn]
    rfl
  | x :: l, k + 1, j, c, h, hn, ha => by
    unfold badI
    rw [if_pos (ha 0 x (by omega) rfl), bad_at l k (j + 1) c (by simpa using h) hn (fun i d hi hd => ha (i + 1) d (by omega) (by simpa using hd))]
    congr 1
    omega
theorem text_take {l : List Vf.Ins} {k : Nat} {c : Vf.Ins} (h : l[k]? = some c) : text ((l.take (k + 1)).map inL) = text ((l.take k).map inL) ++ (inL c ++ [10]) := by
  obtain ⟨hk, rfl⟩ := List.getElem?_eq_some_iff.1 h
  rw [List.take_succ_eq_append_getElem hk, List.map_append, text_app]
  congr 1
  simp [text]

/-- The code so far. -/
structure CdAt (B S U J : Nat) (T : By) (u : Vf.Un) (N M : Nat) (al ac : Option Addr) (cl cc : Nat) (w : World) (k : Nat) (W : World) : Prop where
  le : k ≤ u.code.length
  kp : Kp B w W
  un : W.heap[N]? = some (unO u al ac cl cc)
  wh : W.heap[M]? = some (.cells #[.int .i64 0, .int .i64 0, .int .i64 0] 29 (0, 0))
  wr : ∃ xs, WR W B S U J xs ∧ xs.length ≤ 60060 ∧ Lk (T ++ (unL u ++ [10]) ++ text ((u.code.take k).map inL)) xs
  ok : ∀ (i : Nat) (d : Vf.Ins), i < k → u.code[i]? = some d → (wordOf d.op).isSome = true
theorem CdAt.kept {B S U J N M cl cc k : Nat} {T : By} {u : Vf.Un} {al ac : Option Addr} {w W W' : World} (h : CdAt B S U J T u N M al ac cl cc w k W) (hb : Below W.heap.size W W') : CdAt B S U J T u N M al ac cl cc w k W' := by
  obtain ⟨xs, h1, h2, h3⟩ := h.wr
  exact ⟨h.le, h.kp.trans (Kp.new hb h1.ge), (hb.block _ (lt_of_block h.un)).trans h.un, (hb.block _ (lt_of_block h.wh)).trans h.wh, ⟨xs, h1.new hb, h2, h3⟩, h.ok⟩

set_option maxHeartbeats 2000000 in
theorem unit_any (B S U J n : Nat) (_hn : n ≤ 9223372036854775807) (u : Vf.Un) (al ac : Option Addr) (cl cc : Nat) (T : By) (w : World) (hg : Hid (GV B w)) (hin : Hid (UnIn B w u al ac cl cc)) (h : Hid (WR w B S U J T)) (hf : Hid (T.length ≤ 60000)) (r : Nat × Nat × Nat) (hr : Hid (r = unitR T n u)) :
    Calls Tryz.prog 11 #[.pointer (some ⟨S, 0, none⟩), .int .i64 n, unV u al ac cl cc] w fun e w' => e = .returned (.agg #[.int .i64 r.1, .int .i64 r.2.1, .int .i64 r.2.2]) ∧ Kp B w w' ∧ WhenOk r.1 (WR w' B S U J (T ++ text (linesU u))) := by
  have hge := h.out.ge
  obtain ⟨V, hV⟩ : ∃ V, V = (w.alloc (unO u al ac cl cc)).alloc (.cells #[.int .i64 0, .int .i64 0, .int .i64 0] 29) := ⟨_, rfl⟩
  have hbV : Below w.heap.size w V := by rw [hV]; exact two_below _ _ _
  have HUN : Hid (V.heap[w.heap.size]? = some (unO u al ac cl cc)) := by
    rw [hV]
    exact (Below.heap_alloc _ _ _ (by simp)).trans (heap_alloc_new _ _)
  have HWH : Hid (V.heap[w.heap.size + 1]? = some (.cells #[.int .i64 0, .int .i64 0, .int .i64 0] 29 (0, 0))) := by rw [hV]; exact two_new _ _ _
  have HK : Hid (Kp B w V) := Kp.new hbV hge
  have HW : Hid (WR V B S U J T) := h.out.new hbV
  have hnum := hin.out.nums
  obtain ⟨v, hS, _⟩ := HW.out.row
  obtain ⟨s0, s1, s2, s3, s4, _⟩ := wr_cells hS
  obtain ⟨c0, c1, c2, c3, c4, c5⟩ := un_cells HUN.out
  obtain ⟨q0, q1, q2, g0, g1, g2⟩ := wh_cells HWH.out
  have HN64 : Hid (I64 u.kind) := hnum.1
  clear hbV hnum hS
  obtain ⟨N, hN⟩ : ∃ N, N = w.heap.size := ⟨_, rfl⟩
  have HNw := hide hN
  go_enter Tryz.func11, Tryz.ntmps11
  go_wp2
  rw [← hV]
  rw [← hN] at HUN HWH c0 c1 c2 c3 c4 c5 q0 q1 q2 g0 g1 g2 ⊢
  clear hV hN
  cases hh : headW u.kind with
  | none =>
    have hr2 : r = (1, n, 0) := by rw [hr.out]; unfold unitR; rw [hh]; rfl
    subst hr2
    have HO : Hid ((none : Option By) = ofW unitW 2 u.kind) := by unfold Hid; rw [of_unit, hh]
    clear hh
    go_region_held3 (fun w' => w'.cell? ⟨N, 0, none⟩ = some (.int .i64 u.kind) ∧ w'.cell? ⟨S, 1, none⟩ = some (.int .i64 2) ∧ w'.cell? ⟨S, 2, none⟩ = some (.slice (some ⟨U, 0, none⟩) 3 3)) (go_keep) ((go_at_call 26; refine (of_any U unitW 2 u.kind (by decide) HN64.out (by decide) _ (hide (show (World.drewN V _).heap[U]? = _ from HW.out.us)) none HO).mono ?_; rintro e w1 ⟨rfl, hb⟩; have HB1 : Hid (Below V.heap.size V w1) := below_on (below_drewN V _) hb; clear hb; have hSl := HW.out.lt; have hNl := lt_of_block HUN.out; have k0 := (HB1.out.cell (p := ⟨N, 0, none⟩) hNl).trans c0; have k1 := (HB1.out.cell (p := ⟨S, 1, none⟩) hSl).trans s1; have k2 := (HB1.out.cell (p := ⟨S, 2, none⟩) hSl).trans s2))
    clear c0 c1 c2 c3 c4 c5 s0 s1 s2 s3 s4 k0 k1 k2 q0 q1 q2 g0 g1 g2
    have HWH1 := hide ((HB1.out.block _ (lt_of_block HWH.out)).trans HWH.out)
    obtain ⟨q0, q1, q2, g0, g1, g2⟩ := wh_cells HWH1.out
    have HK1 : Hid (Kp B w w1) := HK.out.trans (Kp.new HB1.out HW.out.ge)
    go_wp2
    exact bodyPost_ret (v := .agg #[.int .i64 1, .int .i64 n, .int .i64 0]) (by simp [results, Tryz.results11, go_sem, q0, q1, q2]) rfl ⟨rfl, HK1.out.set3 (by have := HNw.out; omega) (by have := HNw.out; omega) _ _ _, fun h => absurd h (by decide)⟩
  | some x =>
    have HO : Hid (some x = ofW unitW 2 u.kind) := by unfold Hid; rw [of_unit, hh]
    have HH := hide hh
    clear hh
    go_region_held3 (fun w' => w'.cell? ⟨N, 0, none⟩ = some (.int .i64 u.kind) ∧ w'.cell? ⟨S, 1, none⟩ = some (.int .i64 2) ∧ w'.cell? ⟨S, 2, none⟩ = some (.slice (some ⟨U, 0, none⟩) 3 3)) (go_keep) ((go_at_call 26; refine (of_any U unitW 2 u.kind (by decide) HN64.out (by decide) _ (hide (show (World.drewN V _).heap[U]? = _ from HW.out.us)) (some x) HO).mono ?_; rintro e w1 ⟨rfl, hb⟩; have HB1 : Hid (Below V.heap.size V w1) := below_on (below_drewN V _) hb; clear hb; have hSl := HW.out.lt; have hNl := lt_of_block HUN.out; have k0 := (HB1.out.cell (p := ⟨N, 0, none⟩) hNl).trans c0; have k1 := (HB1.out.cell (p := ⟨S, 1, none⟩) hSl).trans s1; have k2 := (HB1.out.cell (p := ⟨S, 2, none⟩) hSl).trans s2))
    clear c0 c1 c2 c3 c4 c5 s0 s1 s2 s3 s4 k0 k1 k2 q0 q1 q2 g0 g1 g2
    have HWH1 := hide ((HB1.out.block _ (lt_of_block HWH.out)).trans HWH.out)
    have HUN1 := hide ((HB1.out.block _ (lt_of_block HUN.out)).trans HUN.out)
    have HK1 : Hid (Kp B w w1) := HK.out.trans (Kp.new HB1.out HW.out.ge)
    have HW1 := hide (HW.out.new HB1.out)
    obtain ⟨c0, c1, c2, c3, c4, c5⟩ := un_cells HUN1.out
    clear HB1 HWH HUN HK HW
    go_wp2_with fail
    refine (head_any B S U J x u al ac cl cc T w1 (hide (head_len HH.out)) (hide (hg.out.kp HK1.out)) (hide (hin.out.low HK1.out.below.block)) HW1 hf).mono ?_
    rintro e w2 ⟨rfl, hw2⟩
    clear c0 c1 c2 c3 c4 c5
    have HC : Hid (CdAt B S U J T u N (N + 1) al ac cl cc w 0 w2) := ⟨Nat.zero_le _, HK1.out.trans hw2.kp, hw2.kp.blk _ _ _ _ HUN1.out (by decide) (by decide), hw2.kp.blk _ _ _ _ HWH1.out (by decide) (by decide), ⟨_, hw2.wr, by
      have h3 := wInts_len1 (xs := T ++ x) (l := [u.params, u.result, u.takes]) (all3 ⟨hin.out.nums.2.1, hin.out.nums.2.2.1, hin.out.nums.2.2.2⟩) (by have := head_len HH.out; have := hf.out; simp; omega)
      have h4 := wInts_len1 (l := u.locals) (fun m hm => by
        obtain ⟨i, hi, rfl⟩ := List.getElem_of_mem hm
        exact (hin.out.locals i _ (List.getElem?_eq_getElem hi)).1) h3
      unfold wHead
      rw [List.length_append]
      simp only [List.length_cons, List.length_nil]
      omega, by simpa [text] using wHead_lk (.inl rfl) HH.out⟩, fun i d hi => by omega⟩
    clear hw2 HW1 HK1 HUN1 HWH1
    obtain ⟨c0, c1, c2, c3, c4, c5⟩ := un_cells HC.out.un
    have hcl := hin.out.few.2
    go_wp2
    clear c0 c1 c2 c3 c4 c5
    go_loopw [34] (fun i wr => ∃ k : Nat, i = .int .i64 k ∧ CdAt B S U J T u N (N + 1) al ac cl cc w k wr) (fun i _ => u.code.length - (intOf i).toNat)
    case atStart => exact ⟨0, rfl, HC.out⟩
    case round =>
      obtain ⟨k, rfl, hA⟩ := hrel
      have HA := hide hA
      have hk := hA.le
      clear hA HC
      by_cases hlt : k < u.code.length
      · obtain ⟨c, hc⟩ : ∃ c, u.code[k]? = some c := ⟨_, List.getElem?_eq_getElem hlt⟩
        obtain ⟨i1, i2, i3, b, off, he, _, d0, d1, d2⟩ := hin.out.code.low HA.out.kp.below.block k c hc
        have HX := hide hc
        have H3 : Hid (I64 c.op) := i1
        have H4 : Hid (I64 c.a ∧ I64 c.n) := ⟨i2, i3⟩
        clear hc i1 i2 i3
        subst he
        obtain ⟨xs, hwr, hxl, hlk⟩ := HA.out.wr
        have HW := hide hwr
        have HXL := hide hxl
        have HLK := hide hlk
        clear hwr hxl hlk
        obtain ⟨V2, hV2⟩ : ∃ V2, V2 = wr.alloc (inO c) := ⟨_, rfl⟩
        have HBV : Hid (Below wr.heap.size wr V2) := by rw [hV2]; exact (Below.refl _ _).alloc (Nat.le_refl _) _
        have HIN2 : Hid (V2.heap[wr.heap.size]? = some (inO c)) := by rw [hV2]; exact heap_alloc_new _ _
        have HA2 := hide (HA.out.kept HBV.out)
        have HW2 := hide (HW.out.new HBV.out)
        obtain ⟨v2, hS2, _⟩ := HW2.out.row
        obtain ⟨s0, s1, s2, s3, s4, _⟩ := wr_cells hS2
        obtain ⟨j0, j1, j2⟩ := in_cells HIN2.out
        clear hS2
        go_wp2
        rw [← hV2]
        generalize wr.heap.size = M at HIN2 j0 j1 j2 HBV ⊢
        clear hV2 d0 d1 d2 HBV HA HW
        cases hw : wordOf c.op with
        | none =>
          have hr2 : r = (1, n, k) := by
            rw [hr.out]
            unfold unitR
            rw [if_pos (by rw [HH.out]; rfl), bad_at u.code k 0 c HX.out hw HA2.out.ok, Nat.zero_add]
          subst hr2
          have HO2 : Hid ((none : Option By) = ofW tabW 1 c.op) := by unfold Hid; rw [of_tab, hw]; rfl
          clear hw
          go_region_held3 (fun w' => w'.cell? ⟨M, 0, none⟩ = some (.int .i64 c.op) ∧ w'.cell? ⟨S, 3, none⟩ = some (.int .i64 1) ∧ w'.cell? ⟨S, 4, none⟩ = some (.slice (some ⟨J, 0, none⟩) 32 32)) (go_keep) ((go_at_call 26; refine (of_any J tabW 1 c.op (by decide) H3.out (by decide) _ (hide (show (World.drewN V2 _).heap[J]? = _ from HW2.out.js)) none HO2).mono ?_; rintro e w3 ⟨rfl, hb⟩; have HB3 : Hid (Below V2.heap.size V2 w3) := below_on (below_drewN V2 _) hb; clear hb; have hSl := HW2.out.lt; have hMl := lt_of_block HIN2.out; have k0 := (HB3.out.cell (p := ⟨M, 0, none⟩) hMl).trans j0; have k1 := (HB3.out.cell (p := ⟨S, 3, none⟩) hSl).trans s3; have k2 := (HB3.out.cell (p := ⟨S, 4, none⟩) hSl).trans s4))
          clear s0 s1 s2 s3 s4 j0 j1 j2 k0 k1 k2
          have HA3 := hide (HA2.out.kept HB3.out)
          obtain ⟨q0, q1, q2, g0, g1, g2⟩ := wh_cells HA3.out.wh
          go_wp2
          exact bodyPost_ret (v := .agg #[.int .i64 1, .int .i64 n, .int .i64 k]) (by simp [results, Tryz.results11, go_sem, q0, q1, q2]) rfl ⟨rfl, HA3.out.kp.set3 (by have := HNw.out; omega) (by have := HNw.out; omega) _ _ _, fun h => absurd h (by decide)⟩
        | some p =>
          obtain ⟨y, hy'⟩ := p
          have HO2 : Hid (some y = ofW tabW 1 c.op) := by unfold Hid; rw [of_tab, hw]; rfl
          have HWD := hide hw
          clear hw
          go_region_held3 (fun w' => w'.cell? ⟨M, 0, none⟩ = some (.int .i64 c.op) ∧ w'.cell? ⟨S, 3, none⟩ = some (.int .i64 1) ∧ w'.cell? ⟨S, 4, none⟩ = some (.slice (some ⟨J, 0, none⟩) 32 32)) (go_keep) ((go_at_call 26; refine (of_any J tabW 1 c.op (by decide) H3.out (by decide) _ (hide (show (World.drewN V2 _).heap[J]? = _ from HW2.out.js)) (some y) HO2).mono ?_; rintro e w3 ⟨rfl, hb⟩; have HB3 : Hid (Below V2.heap.size V2 w3) := below_on (below_drewN V2 _) hb; clear hb; have hSl := HW2.out.lt; have hMl := lt_of_block HIN2.out; have k0 := (HB3.out.cell (p := ⟨M, 0, none⟩) hMl).trans j0; have k1 := (HB3.out.cell (p := ⟨S, 3, none⟩) hSl).trans s3; have k2 := (HB3.out.cell (p := ⟨S, 4, none⟩) hSl).trans s4))
          clear s0 s1 s2 s3 s4 j0 j1 j2 k0 k1 k2
          have HA3 := hide (HA2.out.kept HB3.out)
          have HW3 := hide (HW2.out.new HB3.out)
          have HIN3 := hide ((HB3.out.block _ (lt_of_block HIN2.out)).trans HIN2.out)
          clear HA2 HW2 HIN2 HB3
          obtain ⟨j0, j1, j2⟩ := in_cells HIN3.out
          go_wp2_with fail
          refine (instr_any B S U J y c (nOf c.op) (hide rfl) xs w3 (hide (word_len HWD.out)) H4 (hide (hg.out.kp HA3.out.kp)) HW3 HXL).mono ?_
          rintro e w4 ⟨rfl, hw4⟩
          clear j0 j1 j2
          have HA4 : Hid (CdAt B S U J T u N (N + 1) al (some ⟨b, off, none⟩) cl cc w (k + 1) w4) := ⟨hlt, HA3.out.kp.trans hw4.kp, hw4.kp.blk _ _ _ _ HA3.out.un (by decide) (by decide), hw4.kp.blk _ _ _ _ HA3.out.wh (by decide) (by decide), ⟨_, hw4.wr, wIns_len (word_len HWD.out) H4.out HXL.out, by rw [text_take HX.out, ← List.append_assoc]; exact wIns_lk HLK.out HWD.out (nOf_word HWD.out)⟩, fun i d hi hd => by
            by_cases hik : i < k
            · exact HA3.out.ok i d hik hd
            · obtain rfl : i = k := by omega
              rw [HX.out] at hd
              cases hd
              rw [HWD.out]
              rfl⟩
          clear hw4 HA3 HW3 HIN3
          go_wp2
          go_roundw
          case rel => exact ⟨k + 1, by go_num, HA4.out⟩
          case measure => simp [intOf]; omega
      · obtain rfl : k = u.code.length := by omega
        obtain ⟨xs, hwr, hxl, hlk⟩ := HA.out.wr
        rw [List.take_length] at hlk
        have hbad : badI u.code 0 = none := (bad_none _ _).2 (fun i hi => by
          obtain ⟨j, hj, rfl⟩ := List.getElem_of_mem hi
          exact HA.out.ok j _ hj (List.getElem?_eq_getElem hj))
        have e1 : T ++ (unL u ++ [10]) ++ text (u.code.map inL) = T ++ text (linesU u) := by simp [linesU, text]
        rw [e1] at hlk
        have hful := hlk.isFull
        have hr2 : r = if 60000 < (T ++ text (linesU u)).length then (4, 0, 0) else (0, 0, 0) := by
          rw [hr.out]
          unfold unitR
          rw [if_pos (by rw [HH.out]; rfl), hbad]
        have HW := hide hwr
        have HLK := hide hlk
        clear hwr hxl hlk hbad e1
        go_wp2_with fail
        refine (full_any B S U J xs _ HW (full xs) (hide rfl)).mono ?_
        rintro e w3 ⟨rfl, rfl⟩
        obtain ⟨q0, q1, q2, g0, g1, g2⟩ := wh_cells HA.out.wh
        cases hfx : full xs with
        | true =>
          rw [hfx] at hful
          rw [if_pos (by simpa using hful.symm)] at hr2
          subst hr2
          clear hfx hful
          go_wp2
          exact bodyPost_ret (v := .agg #[.int .i64 4, .int .i64 0, .int .i64 0]) (by simp [results, Tryz.results11, go_sem, q0, q1, q2]) rfl ⟨rfl, HA.out.kp.set3 (by have := HNw.out; omega) (by have := HNw.out; omega) _ _ _, fun h => absurd h (by decide)⟩
        | false =>
          rw [hfx] at hful
          rw [if_neg (by simpa using hful.symm)] at hr2
          subst hr2
          have HEQ := hide (HLK.out.eq hfx)
          clear hfx hful
          go_wp2
          exact bodyPost_ret (v := .agg #[.int .i64 0, .int .i64 0, .int .i64 0]) (by simp [results, Tryz.results11, go_sem, q0, q1, q2]) rfl ⟨rfl, HA.out.kp.set3 (by have := HNw.out; omega) (by have := HNw.out; omega) _ _ _, fun _ => by rw [← HEQ.out]; exact HW.out.set3 HA.out.wh _ _ _⟩

end Go.Proofs.YtbdcmkmeljddmaaGreatDoor.Aw

