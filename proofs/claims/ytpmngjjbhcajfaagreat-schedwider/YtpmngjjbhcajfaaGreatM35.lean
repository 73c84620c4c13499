/- Rows of one's own that are copied and changed. -/
import Derived.Test.YtpmngjjbhcajfaaGreatM34
import Derived.Laws.OwnMore
import Derived.Laws.AppendOwnNone
import Derived.Test.YtpmngjjbhcajfaaGreatM28
namespace Go.Proofs.YtpmngjjbhcajfaaGreat.Vw
open Go.RowKit Vf Vm

section
variable {P : Program} {w : World}
theorem run_append_nothing (base : Nat) (t ty e : TypeId) (i : TypeInfo) (size : Nat) (ht : P.underlying t = some (.slice e)) (hi : P.info? e = some i) (v : Value) (n : Nat) (xs : List Value) (hown : w.ownsRow base e size v n xs) (c : Nat) :
    (Builtin.append_ #[t, t] ty #[v, .slice none 0 c]).run P w = .ok v w := by
  rcases hown.2 with ⟨rfl, rfl⟩ | ⟨g, cap, cur, rfl, _, _, hnc, _⟩
  · simp [Builtin.append_, run_underlying ht, sizeOf, typeInfo, hi, Builtin.lenOf, Builtin.firstCells]
  · simp [Builtin.append_, run_underlying ht, sizeOf, typeInfo, hi, Builtin.lenOf, Builtin.firstCells, hnc, storeCells]
/-- Appended: what may be nothing. -/
theorem wpList_append_src {ops : Array Oper} {rest : List Oper} {o : Oper} {a : Act} {Q : Exit → Act → World → Prop} (hgd : o.guard = none) (s x : Operand) (t : TypeId)
    (ho : o.op = .call { callee := .builtin .append, args := #[s, x], argTypes := #[t, t] })
    (base : Nat) (e : TypeId) (i : TypeInfo) (z : Value) (size bytes : Nat) (ht : P.underlying t = some (.slice e)) (hi : P.info? e = some i) (hz : i.zero = some z)
    (hsize : i.size = size) (hby : i.bytes = bytes) (hzs : z.cells.size = size) (hsz : 0 < size)
    (v : Value) (n : Nat) (xs : List Value) (hs : a.eval s = v) (hown : w.ownsRow base e size v n xs)
    (ao : Option Addr) (m c : Nat) (news : List Value) (hx : a.eval x = .slice ao m c) (hno : ao = none → m = 0) (hl : news.length = m * size) (hnews : ∀ ad, ao = some ad → ∀ j u, news[j]? = some u → w.cell? (ad.add j) = some u) (h1 : ∀ u ∈ news, u.oneCell' = true)
    (h63 : n + m ≤ maxLen) (hbytes : (n + m) * bytes ≤ 140737488355328) (hbase : base ≤ w.heap.size)
    (h : ∀ v' w', w'.ownsRow base e size v' (n + m) (xs ++ news) → w.grownBy w' v.ownBlock → wpList P ops Q rest (a.put o.dst v') w') : wpList P ops Q (o :: rest) a w := by
  cases ao with
  | none =>
    obtain rfl := hno rfl
    obtain rfl : news = [] := List.eq_nil_of_length_eq_zero (by simpa using hl)
    refine wpList_plain hgd fun K hK => ?_
    have hrun := run_append_nothing (P := P) (w := w) base t o.type e i size ht hi v n xs hown c
    unfold Oper.wp
    simp [execOp, ho, resolve, invoke, builtin, hs, hx, hrun, Result.andThen]
    exact hK _ _ (h v w (by simpa using hown) (World.grownBy.refl _ _))
  | some ad => exact wpList_append_own w hgd s x t ho base e i z size bytes ht hi hz hsize hby hzs hsz v n xs hs hown ad m c news hx hl (hnews ad rfl) h1 h63 hbytes hbase (fun v' w' h2 h3 _ => h v' w' h2 h3)
end
theorem own_empty (X : World) (e : TypeId) {M : Nat} (hM : M ≤ X.heap.size) (size : Nat) : (X.alloc (.cells #[] e)).ownsRow M e size (.slice (some ⟨X.heap.size, 0, none⟩) 0 0) 0 [] :=
  ⟨by simp, .inr ⟨X.heap.size, 0, #[], rfl, hM, heap_alloc_new X _, Nat.le_refl _, by unfold maxLen; omega, by simp, by simp⟩⟩
theorem fm_len {α : Type} (f : α → List Value) (k : Nat) (hf : ∀ x, (f x).length = k) (l : List α) : (l.flatMap f).length = l.length * k := by
  induction l with
  | nil => simp
  | cons x l ih => rw [List.flatMap_cons, List.length_append, ih, hf, List.length_cons, Nat.succ_mul]; omega
theorem fm_at {α : Type} (f : α → List Value) (k : Nat) (hf : ∀ x, (f x).length = k) : ∀ (l : List α) (i : Nat) (x : α), l[i]? = some x → ∀ j, j < k → (l.flatMap f)[i * k + j]? = (f x)[j]?
  | y :: l, 0, x, h, j, hj => by
    simp at h
    subst h
    rw [List.flatMap_cons, List.getElem?_append_left (by rw [hf]; omega)]
    simp
  | y :: l, i + 1, x, h, j, hj => by
    have := fm_at f k hf l i x (by simpa using h) j hj
    rw [List.flatMap_cons, Nat.succ_mul, List.getElem?_append_right (by rw [hf]; omega), ← this]
    congr 1
    rw [hf]
    omega
theorem fm_mem {α : Type} (f : α → List Value) (k : Nat) (h0 : 0 < k) (hf : ∀ x, (f x).length = k) {l : List α} {j : Nat} {v : Value} (h : (l.flatMap f)[j]? = some v) : ∃ i j' x, j = i * k + j' ∧ j' < k ∧ l[i]? = some x ∧ (f x)[j']? = some v := by
  have hlt := (List.getElem?_eq_some_iff.1 h).1
  rw [fm_len f k hf] at hlt
  have hi : j / k < l.length := (Nat.div_lt_iff_lt_mul h0).2 hlt
  have hm := Nat.mod_lt j h0
  have hx := List.getElem?_eq_getElem hi
  have e : j = j / k * k + j % k := by rw [Nat.mul_comm]; exact (Nat.div_add_mod j k).symm
  refine ⟨j / k, j % k, l[j / k], e, hm, hx, ?_⟩
  rw [← fm_at f k hf l _ _ hx _ hm, ← e]
  exact h
end Go.Proofs.YtpmngjjbhcajfaaGreat.Vw

/- Kahn's theorem, plainly: steps of two tasks change places; all runs to rest are of one length and end alike. -/
namespace Go.Proofs.YtpmngjjbhcajfaaGreat.Vw
open Go.RowKit Vf Vm

/-- So many steps, one after the other. -/
def Runs {σ : Type} (R : σ → σ → Prop) : Nat → σ → σ → Prop
  | 0, s, z => s = z
  | n + 1, s, z => ∃ s1, R s s1 ∧ Runs R n s1 z
def Rests {σ : Type} (R : σ → σ → Prop) (z : σ) : Prop := ∀ s, ¬ R z s
section
variable {σ : Type} {R : σ → σ → Prop} {P : σ → Prop}
theorem Runs.app : ∀ {a b : Nat} {s t z : σ}, Runs R a s t → Runs R b t z → Runs R (a + b) s z
  | 0, b, s, t, z, h, k => by cases h; rw [Nat.zero_add]; exact k
  | a + 1, b, s, t, z, ⟨s1, h1, h2⟩, k => by rw [show a + 1 + b = (a + b) + 1 by omega]; exact ⟨s1, h1, h2.app k⟩
theorem Runs.keeps (hP : ∀ s t, P s → R s t → P t) : ∀ {n : Nat} {s z : σ}, Runs R n s z → P s → P z
  | 0, _, _, h, hs => by cases h; exact hs
  | _ + 1, _, _, ⟨_, h1, h2⟩, hs => h2.keeps hP (hP _ _ hs h1)
/-- A first step more or less. -/
theorem Runs.after (hP : ∀ s t, P s → R s t → P t) (hD : ∀ s a b, P s → R s a → R s b → a = b ∨ ∃ c, R a c ∧ R b c) : ∀ {n : Nat} {s z a : σ}, P s → Runs R n s z → Rests R z → R s a → ∃ k, n = k + 1 ∧ Runs R k a z
  | 0, s, z, a, _, h, hz, ha => by cases h; exact absurd ha (hz a)
  | n + 1, s, z, a, hs, ⟨b, hb, hr⟩, hz, ha => by
    rcases hD s a b hs ha hb with e | ⟨c, hac, hbc⟩
    · subst e; exact ⟨n, rfl, hr⟩
    · obtain ⟨k, e, hk⟩ := Runs.after hP hD (hP _ _ hs hb) hr hz hbc
      exact ⟨n, rfl, by rw [e]; exact ⟨c, hac, hk⟩⟩
/-- Whatever way one goes, one is on the way to the same rest. -/
theorem Runs.rest (hP : ∀ s t, P s → R s t → P t) (hD : ∀ s a b, P s → R s a → R s b → a = b ∨ ∃ c, R a c ∧ R b c) : ∀ {k n : Nat} {s z t : σ}, P s → Runs R n s z → Rests R z → Runs R k s t → ∃ j, n = k + j ∧ Runs R j t z
  | 0, n, s, z, t, _, h, _, ht => by cases ht; exact ⟨n, by omega, h⟩
  | k + 1, n, s, z, t, hs, h, hz, ⟨a, ha, hr⟩ => by
    obtain ⟨n', e, h'⟩ := Runs.after hP hD hs h hz ha
    obtain ⟨j, e2, hj⟩ := Runs.rest hP hD (hP _ _ hs ha) h' hz hr
    exact ⟨j, by omega, hj⟩
/-- ONE REST: two ways to rest are of one length, and end alike. -/
theorem Runs.one (hP : ∀ s t, P s → R s t → P t) (hD : ∀ s a b, P s → R s a → R s b → a = b ∨ ∃ c, R a c ∧ R b c) {k n : Nat} {s y z : σ} (hs : P s) (h1 : Runs R n s z) (hz : Rests R z) (h2 : Runs R k s y) (hy : Rests R y) : n = k ∧ y = z := by
  obtain ⟨j, e, hj⟩ := Runs.rest hP hD hs h1 hz h2
  cases j with
  | zero => exact ⟨by omega, hj⟩
  | succ j =>
    obtain ⟨a, ha, _⟩ := hj
    exact absurd ha (hy a)
end

/-- What an instruction does with the boxes. -/
theorem stX_none {c : Ins} {v : Int} {x : List Bq} (h1 : c.op ≠ 26) (h2 : c.op ≠ 27) : stX mbX c v x = x := by unfold stX; rw [if_neg h1, if_neg h2]
/-- Whom an instruction speaks with. -/
def Apart (c d : Ins) : Prop := (c.op = 26 → d.op = 26 → c.a.toNat ≠ d.a.toNat) ∧ (c.op = 27 → d.op = 27 → c.a.toNat ≠ d.a.toNat)
/-- What an instruction asks of the boxes. -/
def May (c : Ins) (x : List Bq) : Prop := (c.op = 26 → mbX.full x c.a.toNat = false) ∧ (c.op = 27 → mbX.empty x c.a.toNat = false)
theorem stat_may {m : Md} {t : Tk} {x : List Bq} (h0 : t.over = 0) : (stat mbX m t x).1 = 1 ↔ May (t.ins m) x := by
  unfold stat May
  rw [if_neg (by omega)]
  by_cases h1 : (t.ins m).op = 26 ∧ mbX.full x (t.ins m).a.toNat = true
  · rw [if_pos h1]
    simp [h1.1, h1.2]
  · rw [if_neg h1]
    by_cases h2 : (t.ins m).op = 27 ∧ mbX.empty x (t.ins m).a.toNat = true
    · rw [if_pos h2]
      simp [h2.1, h2.2]
    · rw [if_neg h2]
      simp only [true_iff]
      refine ⟨fun e => ?_, fun e => ?_⟩
      · cases hf : mbX.full x (t.ins m).a.toNat
        · rfl
        · exact absurd ⟨e, hf⟩ h1
      · cases hf : mbX.empty x (t.ins m).a.toNat
        · rfl
        · exact absurd ⟨e, hf⟩ h2
end Go.Proofs.YtpmngjjbhcajfaaGreat.Vw

/- Two instructions of two tasks change places, as far as boxes go. -/
namespace Go.Proofs.YtpmngjjbhcajfaaGreat.Vw
open Go.RowKit Vf Vm

theorem put_at (x : List Bq) (i j : Nat) (v : Int) : (mbX.put x i v)[j]? = if i = j then (x[j]?).map (fun q => { q with ws := q.ws ++ [v] }) else x[j]? := by
  simp only [mbX]
  cases hx : x[i]? with
  | none =>
    by_cases e : i = j
    · subst e; simp [hx]
    · simp [e]
  | some q =>
    have hi := (List.getElem?_eq_some_iff.1 hx).1
    by_cases e : i = j
    · subst e; rw [if_pos rfl, hx, List.getElem?_set_self hi]; rfl
    · simp [e]
theorem take_at (x : List Bq) (i j : Nat) : (mbX.take x i)[j]? = if i = j then (x[j]?).map (fun q => { q with ws := q.ws.tail }) else x[j]? := by
  simp only [mbX]
  cases hx : x[i]? with
  | none =>
    by_cases e : i = j
    · subst e; simp [hx]
    · simp [e]
  | some q =>
    have hi := (List.getElem?_eq_some_iff.1 hx).1
    by_cases e : i = j
    · subst e; rw [if_pos rfl, hx, List.getElem?_set_self hi]; rfl
    · simp [e]
theorem full_of {x y : List Bq} {n : Nat} (h : x[n]? = y[n]?) : mbX.full x n = mbX.full y n := by simp only [mbX, h]
theorem empty_of {x y : List Bq} {n : Nat} (h : x[n]? = y[n]?) : mbX.empty x n = mbX.empty y n := by simp only [mbX, h]
theorem head_of {x y : List Bq} {n : Nat} (h : x[n]? = y[n]?) : mbX.head x n = mbX.head y n := by simp only [mbX, h]
theorem not_empty {x : List Bq} {n : Nat} (h : mbX.empty x n = false) : ∃ q u ws, x[n]? = some q ∧ q.ws = u :: ws := by
  simp only [mbX] at h
  cases hx : x[n]? with
  | none => rw [hx] at h; simp at h
  | some q =>
    rw [hx] at h
    cases hw : q.ws with
    | nil => simp [hw] at h
    | cons u ws => exact ⟨q, u, ws, rfl, hw⟩
/-- No box has more than its places. -/
def Fits (x : List Bq) : Prop := ∀ (n : Nat) q, x[n]? = some q → q.ws.length ≤ q.cap

theorem box_swap {c d : Ins} {x : List Bq} (v u : Int) (hF : Fits x) (hA : Apart c d) (hc : May c x) (hd : May d x) :
    May d (stX mbX c v x) ∧ (d.op = 27 → mbX.head (stX mbX c v x) d.a.toNat = mbX.head x d.a.toNat) ∧ stX mbX d u (stX mbX c v x) = stX mbX c v (stX mbX d u x) := by
  obtain ⟨a, ha⟩ : ∃ a, a = c.a.toNat := ⟨_, rfl⟩
  obtain ⟨b, hb⟩ : ∃ b, b = d.a.toNat := ⟨_, rfl⟩
  by_cases c26 : c.op = 26
  · have eC : ∀ y, stX mbX c v y = mbX.put y a v := fun y => by unfold stX; rw [if_pos c26, ha]
    rw [eC]
    by_cases d26 : d.op = 26
    · have hne : a ≠ b := by rw [ha, hb]; exact hA.1 c26 d26
      have eD : ∀ y, stX mbX d u y = mbX.put y b u := fun y => by unfold stX; rw [if_pos d26, hb]
      refine ⟨⟨fun _ => ?_, fun e => by omega⟩, fun e => by omega, ?_⟩
      · rw [← hb, full_of (y := x) (by rw [put_at, if_neg hne]), hb]; exact hd.1 d26
      · rw [eD, eD, eC]
        apply List.ext_getElem?
        intro j
        simp only [put_at]
        by_cases e1 : b = j <;> by_cases e2 : a = j <;> simp [e1, e2] <;> omega
    · by_cases d27 : d.op = 27
      · have eD : ∀ y, stX mbX d u y = mbX.take y b := fun y => by unfold stX; rw [if_neg d26, if_pos d27, hb]
        obtain ⟨q, h, ws, hq, hw⟩ := not_empty (hd.2 d27)
        rw [← hb] at hq
        by_cases e : a = b
        · have hput : (mbX.put x a v)[b]? = some { q with ws := q.ws ++ [v] } := by rw [put_at, if_pos e, hq]; rfl
          refine ⟨⟨fun e => by omega, fun _ => ?_⟩, fun _ => ?_, ?_⟩
          · rw [← hb]; simp [mbX] at hput ⊢; simp [hput]
          · rw [← hb]; simp only [mbX] at hput ⊢; simp [hput, hq, hw]
          · rw [eD, eD, eC]
            apply List.ext_getElem?
            intro j
            simp only [put_at, take_at]
            by_cases e1 : b = j
            · subst e1
              simp [e, hq, hw]
            · simp [e1, e]
        · refine ⟨⟨fun e => by omega, fun _ => ?_⟩, fun _ => ?_, ?_⟩
          · rw [← hb, empty_of (y := x) (by rw [put_at, if_neg e]), hb]; exact hd.2 d27
          · rw [← hb]; exact head_of (by rw [put_at, if_neg e])
          · rw [eD, eD, eC]
            apply List.ext_getElem?
            intro j
            simp only [put_at, take_at]
            by_cases e1 : b = j <;> by_cases e2 : a = j <;> simp [e1, e2] <;> omega
      · have eD : ∀ y, stX mbX d u y = y := fun y => stX_none d26 d27
        refine ⟨⟨fun e => absurd e d26, fun e => absurd e d27⟩, fun e => absurd e d27, by rw [eD, eD, eC]⟩
  · by_cases c27 : c.op = 27
    · have eC : ∀ y, stX mbX c v y = mbX.take y a := fun y => by unfold stX; rw [if_neg c26, if_pos c27, ha]
      rw [eC]
      obtain ⟨q, h, ws, hq, hw⟩ := not_empty (hc.2 c27)
      rw [← ha] at hq
      by_cases d26 : d.op = 26
      · have eD : ∀ y, stX mbX d u y = mbX.put y b u := fun y => by unfold stX; rw [if_pos d26, hb]
        by_cases e : a = b
        · have htk : (mbX.take x a)[b]? = some { q with ws := q.ws.tail } := by rw [take_at, if_pos e, ← e, hq]; rfl
          have hfit := hF a q hq
          refine ⟨⟨fun _ => ?_, fun e => by omega⟩, fun e => by omega, ?_⟩
          · rw [← hb]
            simp only [mbX] at htk ⊢
            simp [htk, hw] at hfit ⊢
            omega
          · rw [eD, eD, eC]
            apply List.ext_getElem?
            intro j
            simp only [put_at, take_at]
            by_cases e1 : b = j
            · subst e1
              rw [e] at hq
              simp [e, hq, hw]
            · simp [e1, e]
        · refine ⟨⟨fun _ => ?_, fun e => by omega⟩, fun e => by omega, ?_⟩
          · rw [← hb, full_of (y := x) (by rw [take_at, if_neg e]), hb]; exact hd.1 d26
          · rw [eD, eD, eC]
            apply List.ext_getElem?
            intro j
            simp only [put_at, take_at]
            by_cases e1 : b = j <;> by_cases e2 : a = j <;> simp [e1, e2] <;> omega
      · by_cases d27 : d.op = 27
        · have hne : a ≠ b := by rw [ha, hb]; exact hA.2 c27 d27
          have eD : ∀ y, stX mbX d u y = mbX.take y b := fun y => by unfold stX; rw [if_neg d26, if_pos d27, hb]
          refine ⟨⟨fun e => by omega, fun _ => ?_⟩, fun _ => ?_, ?_⟩
          · rw [← hb, empty_of (y := x) (by rw [take_at, if_neg hne]), hb]; exact hd.2 d27
          · rw [← hb]; exact head_of (by rw [take_at, if_neg hne])
          · rw [eD, eD, eC]
            apply List.ext_getElem?
            intro j
            simp only [take_at]
            by_cases e1 : b = j <;> by_cases e2 : a = j <;> simp [e1, e2] <;> omega
        · have eD : ∀ y, stX mbX d u y = y := fun y => stX_none d26 d27
          refine ⟨⟨fun e => absurd e d26, fun e => absurd e d27⟩, fun e => absurd e d27, by rw [eD, eD, eC]⟩
    · have eC : ∀ y, stX mbX c v y = y := fun y => stX_none c26 c27
      rw [eC, eC]
      exact ⟨hd, fun _ => rfl, rfl⟩
end Go.Proofs.YtpmngjjbhcajfaaGreat.Vw

