/- What is known at an instruction, for good: where a flow comes to, plainly. -/
import Derived.Test.YtnfbfdajdflfgaaGreatM4
namespace Go.Proofs.YtnfbfdajdflfgaaGreat
namespace Vf

def FlLe (f g : Fl) : Prop := ∀ i, f.has i = true → g.has i = true
theorem FlLe.refl (f : Fl) : FlLe f f := fun _ h => h
theorem FlLe.trans {f g h : Fl} (a : FlLe f g) (b : FlLe g h) : FlLe f h := fun i hi => b i (a i hi)
theorem FlLe.both (f g : Fl) : FlLe (f.both g) f ∧ FlLe (f.both g) g := by
  refine ⟨fun i h => ?_, fun i h => ?_⟩ <;> (rw [has_both] at h; simp at h; first | exact h.1 | exact h.2)

/-- What comes of an instruction fits to what is known where it goes on. -/
def Sat (m : Md) (u : Un) (K : Nat → Option Kn) (n : Nat) (k : Kn) (c : Ins) : Prop :=
  ∃ k', reck m u c k = .ok k' ∧ ∀ t ∈ goes c n, t.toNat < u.code.length ∧ ∃ k2, K t.toNat = some k2 ∧ k2.st = k'.st ∧ FlLe k2.fl k'.fl

structure Fix (m : Md) (u : Un) (K : Nat → Option Kn) : Prop where
  zero : ∃ k, K 0 = some k ∧ k.st = [] ∧ FlLe k.fl (Fl.first u.params.toNat)
  lt : ∀ n k, K n = some k → n < u.code.length
  next : ∀ n k c, K n = some k → u.code[n]? = some c → Sat m u K n k c

/-- Less is known, and what is known otherwise is to be looked at. -/
structure Gr (s s' : S) : Prop where
  old : ∀ n k0, s.come n = some k0 → ∃ k1, s'.come n = some k1 ∧ k1.st = k0.st ∧ FlLe k1.fl k0.fl
  new : ∀ n k1, s'.come n = some k1 → s.come n = some k1 ∨ n ∈ s'.row
  row : ∀ n, n ∈ s.row → n ∈ s'.row
theorem Gr.refl (s : S) : Gr s s := ⟨fun _ k h => ⟨k, h, rfl, .refl _⟩, fun _ _ h => .inl h, fun _ h => h⟩
theorem Gr.trans {a b c : S} (h : Gr a b) (k : Gr b c) : Gr a c :=
  ⟨fun n k0 h0 => by
    obtain ⟨k1, h1, e1, l1⟩ := h.old n k0 h0
    obtain ⟨k2, h2, e2, l2⟩ := k.old n k1 h1
    exact ⟨k2, h2, e2.trans e1, l2.trans l1⟩,
   fun n k1 h1 => by
    rcases k.new n k1 h1 with h2 | h2
    · rcases h.new n k1 h2 with h3 | h3
      · exact .inl h3
      · exact .inr (k.row n h3)
    · exact .inr h2,
   fun n hn => k.row n (h.row n hn)⟩

def Lt (len : Nat) (s : S) : Prop := ∀ n k, s.come n = some k → n < len

theorem goOn_gr {len : Nat} {k : Kn} {t : Int} {s s' : S} (h0 : 0 ≤ t) (h : goOn len k t s = .ok s') (hl : Lt len s) :
    Gr s s' ∧ Lt len s' ∧ t.toNat < len ∧ ∃ k2, s'.come t.toNat = some k2 ∧ k2.st = k.st ∧ FlLe k2.fl k.fl := by
  have hnote : ∀ (x : Kn), t.toNat < len → (∀ k0, s.come t.toNat = some k0 → x.st = k0.st ∧ FlLe x.fl k0.fl) → Gr s (s.note t.toNat x) ∧ Lt len (s.note t.toNat x) := fun x hlt hx => by
    refine ⟨⟨fun n k0 hn => ?_, fun n k1 hn => ?_, fun n hn => ?_⟩, fun n k1 hn => ?_⟩
    · by_cases e : n = t.toNat
      · subst e; exact ⟨x, by simp [S.note], (hx k0 hn).1, (hx k0 hn).2⟩
      · exact ⟨k0, by simp [S.note, e, hn], rfl, .refl _⟩
    · by_cases e : n = t.toNat
      · subst e; right; simp [S.note]
      · left; simpa [S.note, e] using hn
    · simp [S.note, hn]
    · by_cases e : n = t.toNat
      · subst e; exact hlt
      · exact hl n k1 (by simpa [S.note, e] using hn)
  unfold goOn at h
  split at h
  · rename_i hlt
    have hn : t.toNat < len := by omega
    split at h
    · rename_i hc
      cases h
      obtain ⟨g1, g2⟩ := hnote k hn (fun k0 hk => by rw [hc] at hk; cases hk)
      exact ⟨g1, g2, hn, k, by simp [S.note], rfl, .refl _⟩
    · rename_i t0 hc
      split at h
      · rename_i hst
        split at h
        · rename_i he
          cases h
          have e := Fl.eq_iff.1 he
          exact ⟨.refl _, hl, hn, t0, hc, hst, by rw [← e]; exact (FlLe.both _ _).2⟩
        · cases h
          obtain ⟨g1, g2⟩ := hnote ⟨t0.st, t0.fl.both k.fl⟩ hn (fun k0 hk => by rw [hc] at hk; cases hk; exact ⟨rfl, (FlLe.both _ _).1⟩)
          exact ⟨g1, g2, hn, ⟨t0.st, t0.fl.both k.fl⟩, by simp [S.note], hst, (FlLe.both _ _).2⟩
      · cases h
  · cases h

theorem goAll_gr {len : Nat} {k : Kn} : ∀ {l : List Int} {s s' : S}, (∀ t ∈ l, 0 ≤ t) → goAll len k l s = .ok s' → Lt len s →
    Gr s s' ∧ Lt len s' ∧ ∀ t ∈ l, t.toNat < len ∧ ∃ k2, s'.come t.toNat = some k2 ∧ k2.st = k.st ∧ FlLe k2.fl k.fl
  | [], s, s', _, h, hl => by
    cases h
    exact ⟨.refl _, hl, fun t ht => by cases ht⟩
  | t :: l, s, s', h0, h, hl => by
    unfold goAll andThen at h
    split at h
    · cases h
    · rename_i s1 h1
      obtain ⟨g1, l1, hlt, k2, hk2, e2, f2⟩ := goOn_gr (h0 t List.mem_cons_self) h1 hl
      obtain ⟨g2, l2, hall⟩ := goAll_gr (fun x hx => h0 x (List.mem_cons_of_mem _ hx)) h l1
      refine ⟨g1.trans g2, l2, fun x hx => ?_⟩
      rcases List.mem_cons.1 hx with rfl | hx
      · obtain ⟨k3, hk3, e3, f3⟩ := g2.old _ _ hk2
        exact ⟨hlt, k3, hk3, e3.trans e2, f3.trans f2⟩
      · exact hall x hx

theorem Sat.gr {m : Md} {u : Un} {s s' : S} {n : Nat} {k : Kn} {c : Ins} (h : Sat m u s.come n k c) (g : Gr s s') : Sat m u s'.come n k c := by
  obtain ⟨k', hk, ha⟩ := h
  refine ⟨k', hk, fun t ht => ?_⟩
  obtain ⟨hl, k2, h2, e2, f2⟩ := ha t ht
  obtain ⟨k3, h3, e3, f3⟩ := g.old _ _ h2
  exact ⟨hl, k3, h3, e3.trans e2, f3.trans f2⟩

/-- What a flow keeps to. -/
structure Wi (m : Md) (u : Un) (s : S) : Prop where
  zero : ∃ k, s.come 0 = some k ∧ k.st = [] ∧ FlLe k.fl (Fl.first u.params.toNat)
  lt : Lt u.code.length s
  next : ∀ n k c, s.come n = some k → u.code[n]? = some c → n ∈ s.row ∨ Sat m u s.come n k c

theorem look_wi {m : Md} {u : Un} {n : Nat} {row : List Nat} {come : Nat → Option Kn} {s' : S} (hf : Forms m u) (h : Wi m u ⟨come, n :: row⟩) (hl : look m u n ⟨come, row⟩ = .ok s') : Wi m u s' := by
  have hlt : Lt u.code.length (⟨come, row⟩ : S) := h.lt
  have key : Gr (⟨come, row⟩ : S) s' → Lt u.code.length s' → (∀ k c, s'.come n = some k → u.code[n]? = some c → come n = some k → Sat m u s'.come n k c) → Wi m u s' := fun g l hn => by
    refine ⟨?_, l, fun i k c hi hc => ?_⟩
    · obtain ⟨k, h0, e0, f0⟩ := h.zero
      obtain ⟨k1, h1, e1, f1⟩ := g.old 0 k h0
      exact ⟨k1, h1, e1.trans e0, f1.trans f0⟩
    · rcases g.new i k hi with h1 | h1
      · by_cases e : i = n
        · subst e; exact .inr (hn k c hi hc h1)
        · rcases h.next i k c h1 hc with h2 | h2
          · rcases List.mem_cons.1 h2 with h3 | h3
            · exact absurd h3 e
            · exact .inl (g.row i h3)
          · exact .inr (Sat.gr (s := ⟨come, row⟩) h2 g)
      · exact .inl h1
  unfold look at hl
  split at hl
  · rename_i k c hk hc
    unfold andThen at hl
    split at hl
    · cases hl
    · rename_i k' hr
      obtain ⟨g, l, ha⟩ := goAll_gr (goes_nn (hf c (List.mem_of_getElem? hc)) n) hl hlt
      refine key g l (fun k1 c1 _ hc1 hk1 => ?_)
      have hk' : come n = some k := hk
      rw [hk'] at hk1
      rw [hc] at hc1
      cases hk1; cases hc1
      exact ⟨k', hr, ha⟩
  · rename_i hno
    cases hl
    exact key (.refl _) hlt (fun k c h1 h2 _ => absurd h2 (hno k c h1))

theorem flow_fix {m : Md} {u : Un} (hf : Forms m u) : ∀ (f : Nat) (s : S), mu u.code.length s < f → Wi m u s → (flow m u f s).1 = 0 → ∃ K, Fix m u K
  | f + 1, s, h1, hw, h0 => by
    obtain ⟨come, row⟩ := s
    match row with
    | [] => exact ⟨come, hw.zero, hw.lt, fun n k c hn hc => (hw.next n k c hn hc).elim (fun h => by cases h) id⟩
    | n :: row =>
      unfold flow at h0
      simp only at h0
      rw [mu_row] at h1
      split at h0
      · rename_i e he
        exact absurd h0 (look_nz m u n _ e he)
      · rename_i s' hl
        have := look_mu hf hl
        exact flow_fix hf f s' (by omega) (look_wi hf hw hl) h0

/-- Of a unit whose flow is right something is known for good. -/
theorem fix_of {m : Md} {u : Un} (hf : Forms m u) (hc : 0 < u.code.length) (h : (flowF m u).1 = 0) : ∃ K, Fix m u K := by
  refine flow_fix hf _ (start u) (Nat.lt_succ_self _) ⟨⟨(⟨[], Fl.first u.params.toNat⟩ : Kn), by simp [start, S.note], rfl, FlLe.refl _⟩, fun n k hn => ?_, fun n k c hn _ => ?_⟩ h
  · by_cases e : n = 0
    · omega
    · simp [start, S.note, e] at hn
  · by_cases e : n = 0
    · subst e; left; simp [start, S.note]
    · simp [start, S.note, e] at hn

end Vf
end Go.Proofs.YtnfbfdajdflfgaaGreat

/- A task, plainly: its threads, and a step of it. -/
namespace Go.Proofs.YtnfbfdajdflfgaaGreat
namespace Vm
open Vf

/-- A unit at work: its number, its next instruction, where its locals begin. -/
structure Wk where
  u : Nat
  pc : Nat
  base : Nat
/-- A thread: its words from the bottom, its units at work (the innermost one first), how it stands (0 fresh, 1 held, 2 going, 3 ended), who resumed it. -/
structure Th where
  ws : List Int
  fs : List Wk
  stands : Nat
  up : Option Nat
structure Ev where
  kind : Int
  box : Int
  v : Int
structure Tk where
  ths : List Th
  hand : Nat
  out : List Int
  over : Nat
  trap : Nat
  log : List Ev

def wrap (x : Int) : Int := Go.RowKit.wrap64 x
def th0 : Th := ⟨[], [], 0, none⟩
def Tk.th (t : Tk) (i : Nat) : Th := (t.ths[i]?).getD th0
def Tk.top (t : Tk) : Th := t.th t.hand
def Tk.set (t : Tk) (i : Nat) (h : Th) : Tk := { t with ths := t.ths.set i h }
def Tk.note (t : Tk) (e : Ev) : Tk := { t with log := t.log ++ [e] }
def Tk.fall (t : Tk) (n : Nat) : Tk := { t with over := 5, trap := n, log := t.log ++ [⟨5, 0, n⟩] }
def Tk.words (t : Tk) (ws : List Int) : Tk := t.set t.hand { t.top with ws := ws }
def Tk.put (t : Tk) (v : Int) : Tk := if t.top.ws.length = 400 then t.fall 4 else t.words (t.top.ws ++ [v])
def Tk.last (t : Tk) : Int := (t.top.ws.getLast?).getD 0
def Tk.cut (t : Tk) : Tk := t.words t.top.ws.dropLast
def Tk.frame (t : Tk) : Wk := (t.top.fs.head?).getD ⟨0, 0, 0⟩
def Tk.ins (m : Md) (t : Tk) : Ins := ((unit m t.frame.u).code[t.frame.pc]?).getD ⟨0, 0, 0⟩
def Tk.goto (t : Tk) (n : Nat) : Tk := t.set t.hand { t.top with fs := { t.frame with pc := n } :: t.top.fs.tail }

def yes (b : Bool) : Int := if b then 1 else 0
def holds (op a b : Int) : Bool :=
  if op = 13 then a == b else if op = 14 then a != b else if op = 15 then decide (a < b) else if op = 16 then decide (a ≤ b)
  else if op = 17 then decide (b < a) else if op = 18 then decide (b ≤ a) else if op = 19 then a != 0 && b != 0 else a != 0 || b != 0
def two (op a b : Int) : Int :=
  if op = 8 then wrap (a + b) else if op = 9 then wrap (a - b) else if op = 10 then wrap (a * b)
  else if op = 11 then wrap (a.tdiv b) else if op = 12 then a.tmod b else yes (holds op a b)

/-- A unit's new thread. -/
def newTh (u : Un) (n : Nat) (ps : List Int) : Th := ⟨ps ++ List.replicate (u.locals.length - u.params.toNat) 0, [⟨n, 0, 0⟩], 0, none⟩
def Tk.call (m : Md) (t : Tk) (n : Nat) : Tk :=
  if t.top.fs.length = 40 then t.fall 4
  else if t.top.ws.length + ((unit m n).locals.length - (unit m n).params.toNat) ≤ 400 then
    t.set t.hand { t.top with ws := t.top.ws ++ List.replicate ((unit m n).locals.length - (unit m n).params.toNat) 0, fs := ⟨n, 0, t.top.ws.length - (unit m n).params.toNat⟩ :: t.top.fs }
  else (t.words (t.top.ws ++ List.replicate (400 - t.top.ws.length) 0)).fall 4
def Tk.leave (t : Tk) : Tk := t.set t.hand { t.top with ws := t.top.ws.take t.frame.base, fs := t.top.fs.tail }
def Tk.ret (t : Tk) : Tk := t.cut.leave.put t.last
def Tk.less (t : Tk) (n : Nat) : Tk := t.words (t.top.ws.take (t.top.ws.length - n))
def Tk.start (m : Md) (t : Tk) (n : Nat) : Tk :=
  let t1 := t.less (unit m n).params.toNat
  if t.ths.length = 31 then t1.fall 5
  else (({ t1 with ths := t1.ths ++ [newTh (unit m n) n (t.top.ws.drop (t.top.ws.length - (unit m n).params.toNat))] } : Tk).note ⟨6, 0, n⟩).put t.ths.length
def Tk.give (t : Tk) (stands : Nat) (v : Int) : Tk :=
  let t1 := t.set t.hand { t.top with stands := stands }
  ({ t1 with hand := t.top.up.getD 0 } : Tk).put v
def Tk.fin (t : Tk) : Tk := if t.hand = 0 then ({ t with over := 4 } : Tk).note ⟨4, 0, 0⟩ else t.give 3 0
def Tk.resume (t : Tk) : Tk :=
  let t1 := t.cut
  let j := t1.last.toNat
  let t2 := t1.cut
  if (t2.th j).stands = 3 then t2.fall 2
  else if (t2.th j).stands = 2 then t2.fall 3
  else
    let t3 : Tk := { t2.set j { t2.th j with stands := 2, up := some t2.hand } with hand := j }
    if (t2.th j).stands = 1 then t3.put t.last else t3
def Tk.alive (t : Tk) : Tk := t.cut.put (yes ((t.cut.th t.last.toNat).stands != 3))
def Tk.reckon (t : Tk) (op : Int) : Tk :=
  if t.last = 0 ∧ (op = 11 ∨ op = 12) then t.cut.cut.fall 1 else t.cut.cut.put (two op t.cut.last t.last)

/-- What an instruction does, behind which it goes on; rv is the word that is received. -/
def Tk.act (m : Md) (c : Ins) (t : Tk) (rv : Int) : Tk :=
  if c.op = 1 then t.put c.n
  else if c.op = 2 then t.put c.a
  else if c.op = 3 then t.put ((t.top.ws[t.frame.base + c.a.toNat]?).getD 0)
  else if c.op = 4 then t.words (t.top.ws.dropLast.set (t.frame.base + c.a.toNat) t.last)
  else if c.op = 5 then t.cut
  else if c.op = 6 then t.cut.put (wrap (-t.last))
  else if c.op = 7 then t.cut.put (wrap (1 - t.last))
  else if c.op = 21 then t.goto c.a.toNat
  else if c.op = 22 then if t.last = 0 then t.cut.goto c.a.toNat else t.cut
  else if c.op = 26 then t.cut.note ⟨2, c.a, t.last⟩
  else if c.op = 27 then (t.note ⟨3, c.a, rv⟩).put rv
  else if c.op = 28 then ({ t.cut with out := t.out ++ [t.last] } : Tk).note ⟨1, 0, t.last⟩
  else if c.op = 23 then t.call m c.a.toNat
  else if c.op = 24 then t.ret
  else if c.op = 29 then t.start m c.a.toNat
  else if c.op = 30 then t.resume
  else if c.op = 31 then t.cut.give 1 t.last
  else if c.op = 25 then t.fin
  else if c.op = 32 then t.alive
  else t.reckon c.op
def Tk.step (m : Md) (t : Tk) (rv : Int) : Tk := (t.goto (t.frame.pc + 1)).act m (t.ins m) rv
/-- A task ahead of its first instruction. -/
def newTk (u : Un) (n : Nat) : Tk := ⟨[{ newTh u n [] with stands := 2 }], 0, [], 0, 0, []⟩

/-- What is asked ahead of a step: that nothing is out of range. -/
structure Safe (m : Md) (t : Tk) : Prop where
  hand : t.hand < t.ths.length
  some : ∃ f r, t.top.fs = f :: r ∧ ∃ u c, m.units[f.u]? = some u ∧ u.code[f.pc]? = some c ∧
    (c.op = 23 ∨ c.op = 29 → (unit m c.a).params ≤ t.top.ws.length) ∧ f.base ≤ t.top.ws.length ∧ (c.op = 3 ∨ c.op = 4 → 0 ≤ c.a ∧ c.a < 200) ∧
    (c.op = 24 → r ≠ [] ∧ f.base < t.top.ws.length) ∧ (c.op = 30 → 0 ≤ t.cut.last ∧ t.cut.last.toNat < t.ths.length) ∧ (c.op = 32 → 0 ≤ t.last ∧ t.last.toNat < t.ths.length) ∧
    (c.op = 31 ∨ c.op = 25 ∧ t.hand ≠ 0 → ∃ j, t.top.up = some j ∧ j < t.ths.length) ∧
    (∀ (i : Nat) h k, t.ths[i]? = some h → h.up = some k → k < t.ths.length)

end Vm
end Go.Proofs.YtnfbfdajdflfgaaGreat

