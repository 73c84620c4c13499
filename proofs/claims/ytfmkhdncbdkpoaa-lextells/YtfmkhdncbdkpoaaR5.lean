/- The walk of the document's Same; what skips and tokens are to the place in a text. -/
import Derived.Test.YtfmkhdncbdkpoaaR4
import Derived.Test.YtfmkhdncbdkpoaaL2
namespace Go.Proofs.Ytfmkhdncbdkpoaa
open Go.RowKit

set_option maxRecDepth 100000 in
set_option maxHeartbeats 1000000 in
theorem same_any (T : List Lx.Tk) (n capa capb : Nat) (aa ab : Option Addr) (B C : Nat) (w : World) (hT : T.length = n) (hn : n ≤ 6001) (hA : w.ownsRow B 32 4 (.slice aa n capa) n (Lx.cellsOf T)) (hB : w.ownsRow C 32 4 (.slice ab n capb) n (Lx.cellsOf T)) :
    Calls Try.prog 8 #[.slice aa n capa, .slice ab n capb] w fun e w' => e = .returned (.bool true) ∧ Below w.heap.size w w' := by
  have HA : Hid (w.ownsRow B 32 4 (.slice aa n capa) n (Lx.cellsOf T)) := hA
  have HB : Hid (w.ownsRow C 32 4 (.slice ab n capb) n (Lx.cellsOf T)) := hB
  have HT : Hid (T.length = n) := hT
  clear hA hB hT
  go_enter Try.func8, Try.ntmps8
  go_wp2
  go_loopw [13] (fun i wr => ∃ k : Nat, k ≤ n ∧ i = .int .i64 k ∧ wr.ownsRow B 32 4 (.slice aa n capa) n (Lx.cellsOf T) ∧ wr.ownsRow C 32 4 (.slice ab n capb) n (Lx.cellsOf T) ∧ Below w.heap.size w wr) (fun i _ => n - (intOf i).toNat)
  case atStart => exact ⟨0, Nat.zero_le _, rfl, HA.out, HB.out, Below.refl _ _⟩
  case round =>
    obtain ⟨k, hk, rfl, hoA, hoB, hbel⟩ := hrel
    have HOA : Hid (wr.ownsRow B 32 4 (.slice aa n capa) n (Lx.cellsOf T)) := hoA
    have HOB : Hid (wr.ownsRow C 32 4 (.slice ab n capb) n (Lx.cellsOf T)) := hoB
    clear hoA hoB
    by_cases hk1 : k < n
    · obtain ⟨tk, htk⟩ : ∃ tk, T[k]? = some tk := ⟨_, List.getElem?_eq_getElem (by rw [HT.out]; omega)⟩
      obtain ⟨ga, capa', hsl, hca1, hca2, _, _⟩ := own_form HOA.out (by omega)
      simp only [Value.slice.injEq] at hsl
      obtain ⟨rfl, _, rfl⟩ := hsl
      obtain ⟨gb, capb', hsl, hcb1, hcb2, _, _⟩ := own_form HOB.out (by omega)
      simp only [Value.slice.injEq] at hsl
      obtain ⟨rfl, _, rfl⟩ := hsl
      have h1 := HOA.out
      have h2 := HOB.out
      have HT2 := HT.out
      rw [← HT2] at h1 h2
      obtain ⟨a0, a1, a2, a3⟩ := own_tok h1 htk
      obtain ⟨b0, b1, b2, b3⟩ := own_tok h2 htk
      obtain ⟨K, hK⟩ : ∃ K, tk.kind = K := ⟨_, rfl⟩
      obtain ⟨X, hX⟩ : ∃ X, tk.text = X := ⟨_, rfl⟩
      obtain ⟨M, hM⟩ : ∃ M, tk.num = M := ⟨_, rfl⟩
      obtain ⟨p, hp⟩ : ∃ p, tk.pos = p := ⟨_, rfl⟩
      rw [hK] at a0 b0
      rw [hX] at a1 b1
      rw [hM] at a2 b2
      rw [hp] at a3 b3
      clear hK hX hM hp htk h1 h2 HT2
      go_wp2
      go_region
      all_goals
        go_wp2
        go_roundw
        case rel => exact ⟨k + 1, by omega, by go_num, HOA.out, HOB.out, hbel.drew⟩
        case measure => simp [intOf]; omega
    · go_wp2
      go_ret
      exact ⟨rfl, hbel⟩

theorem cls_3 {c : UInt8} (h : Lx.cls c = 3) : Lx.isBlk c = true := by
  unfold Lx.cls at h
  cases h1 : Lx.isLet c <;> cases h2 : Lx.isDig c <;> cases h3 : Lx.isBlk c <;> simp [h1, h2, h3] at h ⊢
  split at h <;> omega

theorem cls_4 {c : UInt8} (h : Lx.cls c = 4) : c.toNat = 35 := by
  unfold Lx.cls at h
  split at h
  · omega
  · split at h
    · omega
    · split at h
      · omega
      · split at h
        · assumption
        · omega

theorem cls_1 {c : UInt8} (h : Lx.cls c = 1) : Lx.isLet c = true := by
  unfold Lx.cls at h
  split at h
  · assumption
  · split at h
    · omega
    · split at h
      · omega
      · split at h <;> omega

theorem cls_2 {c : UInt8} (h : Lx.cls c = 2) : Lx.isLet c = false ∧ Lx.isDig c = true := by
  unfold Lx.cls at h
  split at h
  · omega
  · split at h
    · exact ⟨by simpa using ‹¬ Lx.isLet c = true›, by assumption⟩
    · split at h
      · omega
      · split at h <;> omega

theorem cls_5 {c : UInt8} (h : Lx.cls c = 5) : Lx.isLet c = false ∧ Lx.isDig c = false ∧ Lx.isBlk c = false ∧ c.toNat ≠ 35 := by
  unfold Lx.cls at h
  split at h
  · omega
  · split at h
    · omega
    · split at h
      · omega
      · split at h
        · omega
        · exact ⟨by simpa using ‹¬ Lx.isLet c = true›, by simpa using ‹¬ Lx.isDig c = true›, by simpa using ‹¬ Lx.isBlk c = true›, by assumption⟩

theorem cls_le (c : UInt8) : 1 ≤ Lx.cls c ∧ Lx.cls c ≤ 5 := by
  unfold Lx.cls
  repeat' split
  all_goals omega

theorem cls_wrd (c : UInt8) : (Lx.cls c ≤ 2 ↔ Lx.isWrd c = true) ∧ (Lx.cls c = 2 ↔ Lx.isDig c = true) := by
  have hd : Lx.isDig c = true → Lx.isLet c = false := by
    intro h
    have := of_decide_eq_true h
    exact Lx.let_f (by omega)
  unfold Lx.isWrd Lx.cls
  cases h1 : Lx.isLet c <;> cases h2 : Lx.isDig c <;> simp
  · split <;> (try split) <;> omega
  · have := hd h2; rw [h1] at this; cases this

theorem rem1_blk {c : UInt8} (h : Lx.isBlk c = true) : Lx.rem1 false c = false := by
  have := of_decide_eq_true h
  unfold Lx.rem1
  split
  · rfl
  · rw [if_neg (by omega)]

theorem place_blank {s : ByteArray} {i : Nat} (hi : i < s.size) (h : Lx.isBlk s[i] = true) : Lx.place s i = Lx.place s (i + 1) := by
  unfold Lx.place
  rw [drop_byte s i hi, Lx.gapL_yes (by rw [h]; simp), rem1_blk h]
  omega

theorem place_tok {s : ByteArray} {i : Nat} (hi : i < s.size) (h1 : Lx.isBlk s[i] = false) (h2 : s[i].toNat ≠ 35) : Lx.place s i = i := by
  have hr : Lx.rem1 false s[i] = false := by simp [Lx.rem1, h2]
  unfold Lx.place
  rw [drop_byte s i hi, Lx.gapL_no (by rw [hr, h1]; rfl)]
  rfl

/-- Inside a remark that begins at i, at k. -/
def RemInv (s : ByteArray) (i k : Nat) : Prop := i ≤ k ∧ Lx.place s i = k + Lx.gapL (decide (i < k)) (s.data.toList.drop k)

theorem remInv_start (s : ByteArray) (i : Nat) : RemInv s i i := ⟨Nat.le_refl _, by unfold Lx.place; simp⟩

theorem remInv_next {s : ByteArray} {i k : Nat} (h : RemInv s i k) (hk : k < s.size) (hi : ∀ h : i < s.size, s[i].toNat = 35) (hc : s[k].toNat ≠ 10) : RemInv s i (k + 1) := by
  have hr : Lx.rem1 (decide (i < k)) s[k] = true := by
    unfold Lx.rem1
    rw [if_neg hc]
    by_cases hik : i < k
    · simp [hik]
    · obtain rfl : i = k := by have := h.1; omega
      rw [if_pos (hi hk)]
  refine ⟨by have := h.1; omega, ?_⟩
  rw [h.2, drop_byte s k hk, Lx.gapL_yes (by rw [hr]; rfl), hr]
  have : decide (i < k + 1) = true := by have := h.1; simp; omega
  rw [this]; omega

theorem remInv_end {s : ByteArray} {i k : Nat} (h : RemInv s i k) (hi : ∀ h : i < s.size, s[i].toNat = 35) (hc : ∀ hk : k < s.size, s[k].toNat = 10) : Lx.place s i = Lx.place s k := by
  rw [h.2]
  unfold Lx.place
  by_cases hk : k < s.size
  · have h10 := hc hk
    have hik : i < k := by
      rcases Nat.lt_or_ge i k with h1 | h1
      · exact h1
      · obtain rfl : i = k := by have := h.1; omega
        have := hi hk; omega
    have r1 : Lx.rem1 true s[k] = false := by unfold Lx.rem1; rw [if_pos h10]
    have r2 : Lx.rem1 false s[k] = false := by unfold Lx.rem1; rw [if_pos h10]
    have b1 : Lx.isBlk s[k] = true := Lx.blk_t (by omega)
    rw [drop_byte s k hk, decide_eq_true hik, Lx.gapL_yes (by rw [b1]; simp), Lx.gapL_yes (by rw [b1]; simp), r1, r2]
  · rw [List.drop_of_length_le (by have : s.data.toList.length = s.size := rfl; omega)]
    simp [Lx.gapL]

/-- What is gathered, and what the rest gives, is all. -/
def LexEq (s : ByteArray) (done : List Lx.Tk) (f a : Nat) : Prop := (Lx.lexFrom (s.size + 1) s 0).1 = done ++ (Lx.lexFrom f s a).1 ∧ (Lx.lexFrom (s.size + 1) s 0).2 = (Lx.lexFrom f s a).2

theorem lexEq_skip {s : ByteArray} {done : List Lx.Tk} {f a b : Nat} (h : LexEq s done (f + 1) a) (hp : Lx.place s a = Lx.place s b) : LexEq s done (f + 1) b := by
  have e : Lx.lexFrom (f + 1) s a = Lx.lexFrom (f + 1) s b := by rw [Lx.lexFrom, Lx.lexFrom, hp]
  unfold LexEq at h ⊢
  rw [← e]; exact h

theorem lexEq_tok {s : ByteArray} {done : List Lx.Tk} {f a K N M : Nat} (h : LexEq s done (f + 1) a) (hp : Lx.place s a = a) (ha : a < s.size) (hF : Lx.firstL (s.data.toList.drop a) = (0, K, N, M)) :
    LexEq s (done ++ [⟨K, s.extract a (a + N), M, a⟩]) f (a + N) := by
  have e := Lx.lexFrom_tok (f := f) hp (by omega) hF
  unfold LexEq at h ⊢
  rw [e] at h
  exact ⟨by rw [h.1]; simp, h.2⟩

theorem lexEq_err {s : ByteArray} {done : List Lx.Tk} {f a E K N M : Nat} (hm : s.size ≤ 6000) (h : LexEq s done (f + 1) a) (hp : Lx.place s a = a) (ha : a < s.size) (hF : Lx.firstL (s.data.toList.drop a) = (E, K, N, M)) (hE : ¬ E = 0) :
    Lx.lexB s = ([], E, a) := by
  have e := Lx.lexFrom_err (f := f) hp (by omega) hF hE
  have h2 := h.2
  rw [e] at h2
  rw [lexB_bad hm (by rw [h2]; exact hE), h2]

theorem lexEq_end {s : ByteArray} {done : List Lx.Tk} {f a : Nat} (hm : s.size ≤ 6000) (h : LexEq s done (f + 1) a) (ha : s.size ≤ a) : Lx.lexB s = (done, 0, 0) := by
  have e := Lx.lexFrom_end (f := f) (s := s) (a := a) rfl (by unfold Lx.place; omega)
  have h1 := h.1; have h2 := h.2
  rw [e] at h1 h2
  rw [lexB_few hm (by rw [h2])]
  exact Prod.ext (by simpa using h1) h2

theorem drop_take_snoc (s : ByteArray) (a m : Nat) (h : a + m < s.size) : (s.data.toList.drop a).take (m + 1) = (s.data.toList.drop a).take m ++ [s[a + m]] := by
  have e : s.data.toList.length = s.size := rfl
  rw [List.take_succ_eq_append_getElem (by rw [List.length_drop]; omega)]
  simp only [List.getElem_drop]
  rfl

theorem span_from (p : UInt8 → Bool) (s : ByteArray) (a m : Nat) (h : ((s.data.toList.drop a).take m).all p = true) (hm : a + m ≤ s.size) (he : ∀ hl : a + m < s.size, p s[a + m] = false) : Lx.span p (s.data.toList.drop a) = m := by
  have e : s.data.toList.length = s.size := rfl
  refine Lx.span_at p _ m h (by rw [List.length_drop]; omega) (fun x hx => ?_)
  rw [List.getElem?_drop] at hx
  obtain ⟨hl, hx⟩ := List.getElem?_eq_some_iff.1 hx
  have hl' : a + m < s.size := by simpa using hl
  have := he hl'
  rw [← hx]; exact this

theorem firstL_let {s : ByteArray} {a m : Nat} (ha : a < s.size) (h : Lx.isLet s[a] = true) (hs : Lx.span Lx.isWrd (s.data.toList.drop a) = m) : Lx.firstL (s.data.toList.drop a) = (0, 1, m, 0) := by
  rw [drop_byte s a ha] at hs ⊢
  simp only [Lx.firstL, h, if_true, hs]

theorem firstL_long {s : ByteArray} {a m : Nat} (ha : a < s.size) (h : Lx.isLet s[a] = false) (hd : Lx.isDig s[a] = true) (hs : Lx.span Lx.isDig (s.data.toList.drop a) = m) (hm : 15 < m) : Lx.firstL (s.data.toList.drop a) = (3, 0, 0, 0) := by
  rw [drop_byte s a ha] at hs ⊢
  simp only [Lx.firstL, h, hd, if_true, hs, hm, Bool.false_eq_true, if_false]

theorem firstL_num {s : ByteArray} {a m : Nat} (ha : a < s.size) (h : Lx.isLet s[a] = false) (hd : Lx.isDig s[a] = true) (hs : Lx.span Lx.isDig (s.data.toList.drop a) = m) (hm : ¬ 15 < m) : Lx.firstL (s.data.toList.drop a) = (0, 2, m, Lx.numL ((s.data.toList.drop a).take m)) := by
  rw [drop_byte s a ha] at hs ⊢
  simp only [Lx.firstL, h, hd, if_true, hs, hm, Bool.false_eq_true, if_false]

theorem firstL_sign {s : ByteArray} {a m : Nat} (ha : a < s.size) (h : Lx.isLet s[a] = false) (hd : Lx.isDig s[a] = false) (hs : Lx.signL (s.data.toList.drop a) = m) : Lx.firstL (s.data.toList.drop a) = if m = 0 then (2, 0, 0, 0) else (0, 3, m, 0) := by
  rw [drop_byte s a ha] at hs ⊢
  simp only [Lx.firstL, h, hd, hs, Bool.false_eq_true, if_false]

theorem signL_last {s : ByteArray} {a : Nat} (ha : a < s.size) (hl : ¬ a + 1 < s.size) : Lx.signL (s.data.toList.drop a) = if Lx.one s[a] then 1 else 0 := by
  have e : s.data.toList.length = s.size := rfl
  rw [drop_byte s a ha, List.drop_of_length_le (by omega)]
  simp [Lx.signL]

theorem signL_two {s : ByteArray} {a : Nat} (ha : a < s.size) (hl : a + 1 < s.size) : Lx.signL (s.data.toList.drop a) = if decide (s[a + 1].toNat = 61) && Lx.two s[a] then 2 else if Lx.one s[a] then 1 else 0 := by
  rw [drop_byte s a ha, drop_byte s (a + 1) hl]
  have e2 : (some s[a + 1] == some (61 : UInt8)) = decide (s[a + 1].toNat = 61) := by
    rw [Bool.eq_iff_iff]; simp [← UInt8.toNat_inj]
  simp only [Lx.signL, List.head?_cons, e2]

theorem num_from_le {s : ByteArray} {a m : Nat} (hm : m ≤ 15) (hd : ((s.data.toList.drop a).take m).all Lx.isDig = true) : Lx.numL ((s.data.toList.drop a).take m) ≤ 1000000000000000 := by
  have h := Lx.numL_lt _ (fun c hc => List.all_eq_true.1 hd c hc)
  have h2 : ((s.data.toList.drop a).take m).length ≤ 15 := Nat.le_trans (List.length_take_le _ _) hm
  have h3 : 10 ^ ((s.data.toList.drop a).take m).length ≤ 10 ^ 15 := Nat.pow_le_pow_right (by decide) h2
  have h4 : (10 : Nat) ^ 15 = 1000000000000000 := by decide
  omega

/-- What the rest of the document's Tokens needs of a world. -/
def RW (w : World) (v : Value) (l : List Lx.Tk) (X : World) : Prop := X.ownsRow (w.heap.size + 1) 32 4 v l.length (Lx.cellsOf l) ∧ Below w.heap.size w X ∧ X.heap[w.heap.size]? = some Z2

theorem RW.lt {w X : World} {v : Value} {l : List Lx.Tk} (h : RW w v l X) : w.heap.size < X.heap.size := lt_of_block h.2.2
theorem RW.alloc {w X : World} {v : Value} {l : List Lx.Tk} (h : RW w v l X) (o : Obj) : RW w v l (X.alloc o) :=
  ⟨h.1.alloc o, h.2.1.alloc (Nat.le_of_lt h.lt) o, by rw [Below.heap_alloc _ _ _ h.lt]; exact h.2.2⟩

/-- What holds at the head of the document's loop. -/
def RefRel (s : ByteArray) (w : World) (v i : Value) (wr : World) : Prop :=
  ∃ (a f : Nat) (done : List Lx.Tk), i = .int .i64 a ∧ a ≤ s.size ∧ s.size - a < f + 1 ∧ done.length ≤ a ∧ RW w v done wr ∧ LexEq s done (f + 1) a

theorem refRel_next {s : ByteArray} {w wr w3 : World} {v v' : Value} {o : Obj} {a f K N M : Nat} {done : List Lx.Tk} (hd : done.length ≤ a) (hN : 0 < N) (hle : a + N ≤ s.size) (hf : s.size - a < f + 1) (hrw : RW w v done wr)
    (hown : w3.ownsRow (w.heap.size + 1) 32 4 v' (done.length + 1) (Lx.cellsOf done ++ [.int .i64 K, .string (s.extract a (a + N)), .int .i64 M, .int .i64 a])) (hg : (wr.alloc o).grownBy w3 v.ownBlock)
    (h : LexEq s (done ++ [⟨K, s.extract a (a + N), M, a⟩]) f (a + N)) {i : Int} (hi : i = (a : Int) + N) : RefRel s w v' (.int .i64 i) w3 := by
  obtain ⟨f, rfl⟩ : ∃ g, f = g + 1 := ⟨f - 1, by omega⟩
  have ho := hrw.alloc o
  refine ⟨a + N, f, done ++ [⟨K, s.extract a (a + N), M, a⟩], by rw [hi]; rfl, hle, by omega, by simp; omega, ⟨?_, ?_, ?_⟩, h⟩
  · have e : (done ++ [(⟨K, s.extract a (a + N), M, a⟩ : Lx.Tk)]).length = done.length + 1 := by simp
    rw [e, Lx.cellsOf_snoc]; exact hown
  · exact ho.2.1.grown hg (Nat.le_of_lt ho.lt) (by intro k hk; have := (ho.1.lt k hk).1; omega)
  · exact grown_far ho.1 hg (by omega) ho.2.2

end Go.Proofs.Ytfmkhdncbdkpoaa
