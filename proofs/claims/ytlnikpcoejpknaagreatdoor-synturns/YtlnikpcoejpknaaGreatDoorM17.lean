/- One kid more, as a step of a region that draws its order. -/
import Derived.Test.YtlnikpcoejpknaaGreatDoorM16
import Derived.Test.YtlnikpcoejpknaaGreatDoorM4
import Derived.Lib.Join
import Derived.Lib.ItoaNum
namespace Go.Proofs.YtlnikpcoejpknaaGreatDoor
open Go.RowKit

/-- The append law with where the new row lies, as a step of a region that draws its order. -/
theorem step_append_where {P : Program} {ops : Array Oper} {o : Oper} {a : Act} {w : World} {K : Act → World → Prop} {Q : Exit → Act → World → Prop} {F : Prop} (hgd : o.guard = none) (s x : Operand) (t : TypeId)
    (ho : o.op = .call { callee := .builtin .append, args := #[s, x], argTypes := #[t, t] })
    (base : Nat) (e : TypeId) (i : TypeInfo) (z : Value) (size bytes : Nat) (ht : P.underlying t = some (.slice e)) (hi : P.info? e = some i) (hz : i.zero = some z)
    (hsize : i.size = size) (hby : i.bytes = bytes) (hzs : z.cells.size = size) (hsz : 0 < size)
    (v : Value) (n : Nat) (xs : List Value) (hs : a.eval s = v) (hown : w.ownsRow base e size v n xs)
    (ad : Addr) (m c : Nat) (news : List Value) (hx : a.eval x = .slice (some ad) m c) (hl : news.length = m * size) (hnews : ∀ j u, news[j]? = some u → w.cell? (ad.add j) = some u) (h1 : ∀ u ∈ news, u.oneCell' = true)
    (h0 : 0 < m) (h63 : n + m ≤ maxLen) (hbytes : (n + m) * bytes ≤ 140737488355328) (hbase : base ≤ w.heap.size)
    (h : ∀ g cap w', w'.ownsRow base e size (.slice (some ⟨g, 0, none⟩) (n + m) cap) (n + m) (xs ++ news) → w.grownBy w' v.ownBlock → (v.ownBlock = some g ∨ g = w.heap.size) → K (a.put o.dst (.slice (some ⟨g, 0, none⟩) (n + m) cap)) w') :
    if Region.wanted o (yielded ops a.tmps) = true then Oper.wp P o a w K Q else F := by
  have hw : Region.wanted o (yielded ops a.tmps) = true := by simp [Region.wanted, hgd]
  rw [if_pos hw]
  obtain ⟨v', w', hr, h2, h3, g, cap, rfl, h4⟩ := run_append_where (P := P) w base t o.type e i z size bytes ht hi hz hsize hby hzs hsz v n xs hown ad m c news hl hnews h1 h0 h63 hbytes hbase
  unfold Oper.wp
  simp [execOp, ho, resolve, invoke, builtin, hs, hx, hr, Result.andThen]
  exact h g cap w' h2 h3 h4

/-- What comes of reading one kid into the row. -/
def KidEnds (E : Env) (op : Int) (w0 : World) (N : Nat) (out : List Sy.Ex) (r : Res Sy.Ex) (e : Ending) (w' : World) : Prop :=
  w0.grownBy w' (some E.R) ∧ match r with
    | .ok (q, x) => e = .returned (.tuple #[]) ∧ Rdy E w' q op ∧ KSt E N w' (out ++ [x])
    | .error (er, at') => e = .panicked [fltE er at'] ∧ ∃ (q : Nat) (o : Int), Rdy E w' q o ∧ op ≤ o ∧ o ≤ op + 2

def CKid (E : Env) (d : Nat) : Prop := ∀ (p N : Nat) (r : Res Sy.Ex) (out : List Sy.Ex) (w0 w : World), Hid (Rdy E w p (200 - (d : Int))) → p ≤ E.l.length → out.length ≤ 6 → w0.heap.size ≤ N → E.R < w0.heap.size → Hid (w0.grownBy w (some E.R)) → Hid (KSt E N w out) → Hid (r = Rp.expr E.l E.en d (Rp.prevOf E.l E.en d) p) →
  Calls Tryz.prog 169 #[.pointer (some ⟨N + 1, 0, none⟩), .pointer (some ⟨N, 0, none⟩)] w fun e w' => KidEnds E (200 - (d : Int)) w0 N out r e w'

end Go.Proofs.YtlnikpcoejpknaaGreatDoor

/- What the tokens cover of their text. -/
namespace Go.Proofs.YtlnikpcoejpknaaGreatDoor
namespace Lx

end Lx
end Go.Proofs.YtlnikpcoejpknaaGreatDoor

/- The tokens of words with blanks between. -/
namespace Go.Proofs.YtlnikpcoejpknaaGreatDoor
namespace Lx

/-- A word's kind and number, as a token. -/
def kd (w : ByteArray) : Nat := (firstL w.data.toList).2.1
def nu (w : ByteArray) : Nat := (firstL w.data.toList).2.2.2

/-- Nothing, or a blank first. -/
def Bl (r : List UInt8) : Prop := r = [] ∨ ∃ r', r = 32 :: r'

/-- A word that stands by itself: with a blank behind it, it is one token. -/
structure Gw (w : ByteArray) : Prop where
  beg : ∃ c l, w.data.toList = c :: l ∧ isBlk c = false ∧ c.toNat ≠ 35
  one : ∀ r, Bl r → firstL (w.data.toList ++ r) = (0, kd w, w.size, nu w)

/-- What a token is, but for where. -/
def tri (t : Tk) : Nat × ByteArray × Nat := (t.kind, t.text, t.num)
def triW (w : ByteArray) : Nat × ByteArray × Nat := (kd w, w, nu w)

/-- Words, a blank ahead of each. -/
def sepW (ws : List ByteArray) : List UInt8 := ws.flatMap fun w => 32 :: w.data.toList
theorem sepW_bl (ws : List ByteArray) : Bl (sepW ws) := by
  cases ws with
  | nil => exact .inl rfl
  | cons w ws => exact .inr ⟨w.data.toList ++ sepW ws, by simp [sepW]⟩

theorem lex_word {s w : ByteArray} {a f : Nat} {pre r : List UInt8} (hp : pre = [] ∨ pre = [32]) (hw : Gw w) (hr : Bl r) (h : s.data.toList.drop a = pre ++ w.data.toList ++ r) (ha : a ≤ s.size) :
    ∃ q, lexFrom (f + 1) s a = (⟨kd w, w, nu w, q⟩ :: (lexFrom f s (a + pre.length + w.size)).1, (lexFrom f s (a + pre.length + w.size)).2) ∧ s.data.toList.drop (a + pre.length + w.size) = r ∧ a + pre.length + w.size + r.length = s.size ∧ 0 < w.size := by
  obtain ⟨c, l, hc, hb, h35⟩ := hw.beg
  have hlen := congrArg List.length h
  rw [List.length_drop, List.length_append, List.length_append] at hlen
  have e1 : s.data.toList.length = s.size := rfl
  have e2 : w.data.toList.length = w.size := rfl
  have hpos : 0 < w.size := by rw [← e2, hc]; simp
  have hrem : rem1 false c = false := by
    unfold rem1
    split
    · rfl
    · rfl
  have hg : gapL false (c :: (l ++ r)) = 0 := gapL_no (by rw [hrem, hb]; rfl)
  have hpl : place s a = a + pre.length := by
    unfold place
    rw [h, hc]
    rcases hp with rfl | rfl
    · simp only [List.nil_append, List.cons_append, List.length_nil]; rw [hg]
    · have h1 : rem1 false 32 = false := by decide
      have h2 : isBlk 32 = true := by decide
      simp only [List.cons_append, List.nil_append]
      rw [gapL_yes (by rw [h2]; simp), h1, hg]
      rfl
  have hdr : s.data.toList.drop (a + pre.length) = w.data.toList ++ r := by
    rw [← List.drop_drop, h, List.append_assoc, List.drop_left']
    rfl
  have hF : firstL (s.data.toList.drop (a + pre.length)) = (0, kd w, w.size, nu w) := by rw [hdr]; exact hw.one r hr
  have hex : s.extract (a + pre.length) (a + pre.length + w.size) = w := by
    apply ByteArray.ext
    apply Array.toList_inj.1
    simp only [ByteArray.data_extract, Array.toList_extract, List.extract_eq_take_drop]
    rw [hdr, Nat.add_sub_cancel_left, List.take_left']
    exact e2
  refine ⟨a + pre.length, ?_, ?_, by omega, hpos⟩
  · rw [lexFrom_tok hpl (by omega) hF, hex]
  · rw [← List.drop_drop, hdr, List.drop_left']
    exact e2

theorem lex_sep : ∀ (ws : List ByteArray) (f : Nat) (s : ByteArray) (a : Nat), (∀ w ∈ ws, Gw w) → s.data.toList.drop a = sepW ws → a ≤ s.size → s.size - a < f → (lexFrom f s a).2.1 = 0 ∧ (lexFrom f s a).1.map tri = ws.map triW
  | _, 0, s, a, _, _, _, hf => by omega
  | [], f + 1, s, a, _, h, ha, hf => by
    have e1 : s.data.toList.length = s.size := rfl
    have hl := congrArg List.length h
    rw [List.length_drop, e1] at hl
    simp only [sepW, List.flatMap_nil, List.length_nil] at hl
    have hp : s.size ≤ place s a := by unfold place; omega
    rw [lexFrom_end rfl hp]
    exact ⟨rfl, rfl⟩
  | w :: ws, f + 1, s, a, hg, h, ha, hf => by
    obtain ⟨q, h1, h2, h3, h4⟩ := lex_word (f := f) (pre := [32]) (.inr rfl) (hg w (by simp)) (sepW_bl ws) (h.trans (by simp [sepW])) ha
    obtain ⟨i1, i2⟩ := lex_sep ws f s (a + [32].length + w.size) (fun x hx => hg x (by simp [hx])) h2 (by omega) (by have : ([32] : List UInt8).length = 1 := rfl; omega)
    rw [h1]
    exact ⟨i1, by rw [List.map_cons, i2, List.map_cons]; rfl⟩

/-- THE TOKENS OF WORDS WITH BLANKS BETWEEN ARE THE WORDS. -/
theorem lex_words (ws : List ByteArray) (s : ByteArray) (hs : s.data.toList = Lib.join (ws.map (·.data.toList)) [32]) (hg : ∀ w ∈ ws, Gw w) (hm : s.size ≤ 6000) : (lexB s).2.1 = 0 ∧ (lexB s).1.map tri = ws.map triW := by
  have key : (lexFrom (s.size + 1) s 0).2.1 = 0 ∧ (lexFrom (s.size + 1) s 0).1.map tri = ws.map triW := by
    cases ws with
    | nil => exact lex_sep [] (s.size + 1) s 0 (fun _ h => by cases h) (by rw [List.drop_zero, hs]; rfl) (Nat.zero_le _) (by omega)
    | cons w ws =>
      rw [List.map_cons, Lib.join_cons] at hs
      have hj : Lib.joinTail [32] (ws.map (·.data.toList)) = sepW ws := by
        unfold Lib.joinTail sepW
        rw [List.map_map, List.flatMap_def]
        rfl
      rw [hj] at hs
      obtain ⟨q, h1, h2, h3, h4⟩ := lex_word (s := s) (a := 0) (f := s.size) (pre := []) (.inl rfl) (hg w (by simp)) (sepW_bl ws) (by rw [List.drop_zero, hs]; rfl) (Nat.zero_le _)
      obtain ⟨i1, i2⟩ := lex_sep ws s.size s (0 + ([] : List UInt8).length + w.size) (fun x hx => hg x (by simp [hx])) h2 (by omega) (by omega)
      rw [h1]
      exact ⟨i1, by rw [List.map_cons, i2, List.map_cons]; rfl⟩
  have hb : lexB s = lexFrom (s.size + 1) s 0 := by unfold lexB; rw [if_neg (by omega), if_pos key.1]
  rw [hb]
  exact key

/-! Which words stand by themselves. -/

theorem span_bl (p : UInt8 → Bool) (hp : p 32 = false) {x r : List UInt8} (hx : ∀ c ∈ x, p c = true) (hr : Bl r) : span p (x ++ r) = x.length := by
  refine span_at p _ _ ?_ (by simp) (fun y hy => ?_)
  · rw [List.take_left' rfl]
    exact List.all_eq_true.2 hx
  · rw [List.getElem?_append_right (Nat.le_refl _), Nat.sub_self] at hy
    rcases hr with rfl | ⟨r', rfl⟩
    · simp at hy
    · simp at hy; rw [← hy]; exact hp

theorem gw_word {w : ByteArray} {c : UInt8} {l : List UInt8} (hw : w.data.toList = c :: l) (hc : isLet c = true) (hl : ∀ x ∈ l, isWrd x = true) : Gw w ∧ kd w = 1 := by
  have hall : ∀ x ∈ c :: l, isWrd x = true := fun x hx => by
    rcases List.mem_cons.1 hx with rfl | hx
    · simp [isWrd, hc]
    · exact hl x hx
  have hF : ∀ r, Bl r → firstL (w.data.toList ++ r) = (0, 1, w.size, 0) := fun r hr => by
    have hs := span_bl isWrd (by decide) hall hr
    rw [hw]
    simp only [List.cons_append, firstL, hc, if_true]
    rw [List.cons_append] at hs
    rw [hs, ← hw]
    rfl
  have h0 := hF [] (.inl rfl)
  rw [List.append_nil] at h0
  have hk : kd w = 1 := by unfold kd; rw [h0]
  have hn : nu w = 0 := by unfold nu; rw [h0]
  refine ⟨⟨⟨c, l, hw, ?_, ?_⟩, fun r hr => by rw [hF r hr, hk, hn]⟩, hk⟩
  · have := of_decide_eq_true hc
    exact blk_f (by omega)
  · have := of_decide_eq_true hc
    omega

theorem gw_num {w : ByteArray} (h0 : 0 < w.size) (h15 : w.size ≤ 15) (hl : ∀ x ∈ w.data.toList, isDig x = true) : Gw w ∧ kd w = 2 ∧ nu w = numL w.data.toList := by
  obtain ⟨c, l, hw⟩ : ∃ c l, w.data.toList = c :: l := by
    cases h : w.data.toList with
    | nil => have : w.data.toList.length = w.size := rfl; rw [h] at this; simp at this; omega
    | cons c l => exact ⟨c, l, rfl⟩
  have hc : isDig c = true := hl c (by rw [hw]; simp)
  have hlet : isLet c = false := by
    have := of_decide_eq_true hc
    exact let_f (by omega)
  have hF : ∀ r, Bl r → firstL (w.data.toList ++ r) = (0, 2, w.size, numL w.data.toList) := fun r hr => by
    have hs := span_bl isDig (by decide) hl hr
    have hz : w.data.toList.length = w.size := rfl
    rw [hz] at hs
    have ht : (w.data.toList ++ r).take w.size = w.data.toList := List.take_left' hz
    rw [hw] at hs ht ⊢
    rw [List.cons_append] at hs ht ⊢
    simp only [firstL, hlet, hc, if_true]
    rw [hs, ht]
    have h15' : ¬ 15 < w.size := Nat.not_lt.2 h15
    simp [h15']
  have h1 := hF [] (.inl rfl)
  rw [List.append_nil] at h1
  have hk : kd w = 2 := by unfold kd; rw [h1]
  have hn : nu w = numL w.data.toList := by unfold nu; rw [h1]
  refine ⟨⟨⟨c, l, hw, ?_, ?_⟩, fun r hr => by rw [hF r hr, hk, hn]⟩, hk, hn⟩
  · have := of_decide_eq_true hc
    exact blk_f (by omega)
  · have := of_decide_eq_true hc
    omega

theorem gw_one (c : UInt8) (h1 : one c = true) (hl : isLet c = false) (hd : isDig c = false) (hb : isBlk c = false) (h35 : c.toNat ≠ 35) : Gw ⟨#[c]⟩ ∧ kd ⟨#[c]⟩ = 3 := by
  have hF : ∀ r, Bl r → firstL ([c] ++ r) = (0, 3, 1, 0) := fun r hr => by
    have hs : signL (c :: r) = 1 := by
      rcases hr with rfl | ⟨r', rfl⟩
      · simp [signL, h1]
      · have : (some (32 : UInt8) == some 61) = false := by decide
        simp [signL, h1]
    simp only [List.cons_append, List.nil_append, firstL, hl, hd, hs]
    rfl
  have h0 : firstL [c] = (0, 3, 1, 0) := hF [] (.inl rfl)
  have hk : kd ⟨#[c]⟩ = 3 := by show (firstL [c]).2.1 = 3; rw [h0]
  have hn : nu ⟨#[c]⟩ = 0 := by show (firstL [c]).2.2.2 = 0; rw [h0]
  exact ⟨⟨⟨c, [], rfl, hb, h35⟩, fun r hr => by rw [hk, hn]; exact hF r hr⟩, hk⟩
theorem gw_two (c : UInt8) (h1 : two c = true) (hl : isLet c = false) (hd : isDig c = false) (hb : isBlk c = false) (h35 : c.toNat ≠ 35) : Gw ⟨#[c, 61]⟩ ∧ kd ⟨#[c, 61]⟩ = 3 := by
  have hF : ∀ r, Bl r → firstL ([c, 61] ++ r) = (0, 3, 2, 0) := fun r hr => by
    have hs : signL (c :: 61 :: r) = 2 := by simp [signL, h1]
    simp only [List.cons_append, List.nil_append, firstL, hl, hd, hs]
    rfl
  have h0 : firstL [c, 61] = (0, 3, 2, 0) := hF [] (.inl rfl)
  have hk : kd ⟨#[c, 61]⟩ = 3 := by show (firstL [c, 61]).2.1 = 3; rw [h0]
  have hn : nu ⟨#[c, 61]⟩ = 0 := by show (firstL [c, 61]).2.2.2 = 0; rw [h0]
  exact ⟨⟨⟨c, [61], rfl, hb, h35⟩, fun r hr => by rw [hk, hn]; exact hF r hr⟩, hk⟩

/-! Numbers as they are written. -/

theorem digit_at {d : Nat} (h : d < 10) : isDig (UInt8.ofNat (48 + d)) = true ∧ (UInt8.ofNat (48 + d)).toNat - 48 = d := by
  have e : (UInt8.ofNat (48 + d)).toNat = 48 + d := by rw [UInt8.toNat_ofNat']; omega
  exact ⟨dig_t (by omega), by omega⟩
theorem dec_digits (u : Nat) : (∀ x ∈ Lib.decDigits u, isDig x = true) ∧ numL (Lib.decDigits u) = u ∧ 0 < (Lib.decDigits u).length := by
  induction u using Nat.strongRecOn with
  | ind u ih =>
    rw [Lib.decDigits]
    split
    · rename_i h
      have := digit_at h
      exact ⟨fun x hx => by rw [List.mem_singleton.1 hx]; exact this.1, by show 0 * 10 + _ = u; rw [this.2]; omega, Nat.zero_lt_one⟩
    · rename_i h
      obtain ⟨i1, i2, i3⟩ := ih (u / 10) (by omega)
      have hd := digit_at (d := u % 10) (by omega)
      refine ⟨fun x hx => ?_, ?_, by simp⟩
      · rcases List.mem_append.1 hx with hx | hx
        · exact i1 x hx
        · rw [List.mem_singleton.1 hx]; exact hd.1
      · rw [numL_snoc, i2, hd.2]
        omega
theorem dec_len (u : Nat) (h : u < 10 ^ 15) : (Lib.decDigits u).length ≤ 15 := by
  rw [Lib.decDigits_length]
  by_cases h0 : Lib.nDigits u ≤ 15
  · exact h0
  · exfalso
    have key : ∀ (k u : Nat), u < 10 ^ (k + 1) → Lib.nDigits u ≤ k + 1 := by
      intro k
      induction k with
      | zero => intro u hu; rw [Lib.nDigits_small (by simpa using hu)]; omega
      | succ k ih =>
        intro u hu
        by_cases hs : u < 10
        · rw [Lib.nDigits_small hs]; omega
        · rw [Lib.nDigits_big hs]
          have := ih (u / 10) (by rw [Nat.pow_succ] at hu; omega)
          omega
    have := key 14 u h
    omega

end Lx
end Go.Proofs.YtlnikpcoejpknaaGreatDoor

