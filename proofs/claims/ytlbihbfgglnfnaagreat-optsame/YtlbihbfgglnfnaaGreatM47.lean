/- Shorter code runs as the longer one, plainly: a piece at a time. -/
import Derived.Test.YtlbihbfgglnfnaaGreatM46
namespace Go.Proofs.YtlbihbfgglnfnaaGreat
namespace Ot
open Vf Vm
def st (t : Tk) (n : Nat) (ws : List Int) : Tk := t.set t.hand { t.top with ws := ws, fs := { t.frame with pc := n } :: t.top.fs.tail }
theorem st_top {t : Tk} (ht : t.hand < t.ths.length) (n : Nat) (ws : List Int) : (st t n ws).top = { t.top with ws := ws, fs := { t.frame with pc := n } :: t.top.fs.tail } := by
 simp [st, Tk.set, Tk.top, Tk.th, ht]
theorem st_frame {t : Tk} (ht : t.hand < t.ths.length) (n : Nat) (ws : List Int) : (st t n ws).frame = { t.frame with pc := n } := by
 unfold Tk.frame
 rw [st_top ht]
 rfl
theorem st_goto {t : Tk} (ht : t.hand < t.ths.length) (n k : Nat) (ws : List Int) : (st t n ws).goto k = st t k ws := by
 unfold Tk.goto
 rw [st_top ht, st_frame ht]
 simp [st, Tk.set]
theorem st_words {t : Tk} (ht : t.hand < t.ths.length) (n : Nat) (ws ws' : List Int) : (st t n ws).words ws' = st t n ws' := by
 unfold Tk.words
 rw [st_top ht]
 simp [st, Tk.set]
theorem st_put {t : Tk} (ht : t.hand < t.ths.length) (n : Nat) (ws : List Int) (v : Int) : (st t n ws).put v = if ws.length = 400 then (st t n ws).fall 4 else st t n (ws ++ [v]) := by
 unfold Tk.put
 rw [st_top ht, st_words ht]
theorem st_last {t : Tk} (ht : t.hand < t.ths.length) (n : Nat) (ws : List Int) : (st t n ws).last = (ws.getLast?).getD 0 := by
 unfold Tk.last
 rw [st_top ht]
theorem st_cut {t : Tk} (ht : t.hand < t.ths.length) (n : Nat) (ws : List Int) : (st t n ws).cut = st t n ws.dropLast := by
 unfold Tk.cut
 rw [st_words ht, st_top ht]
theorem st_ins {t : Tk} (ht : t.hand < t.ths.length) (m : Md) (n : Nat) (ws : List Int) {c : Ins} (h : (unit m t.frame.u).code[n]? = some c) : (st t n ws).ins m = c := by
 unfold Tk.ins
 rw [st_frame ht]
 simp [h]
theorem mv_st {t : Tk} (m : Md) (n : Nat) (ws : List Int) : mv m (st t n ws) = st (mv m t) (now (all (unit m t.frame.u).code) n) ws := by
 unfold st
 rw [mv_hand, mv_top, mv_frame, ← mv_set]
 simp [mvH, mvF, List.map_tail]
theorem st_self {t : Tk} (ht : t.hand < t.ths.length) {f : Wk} {r : List Wk} (h : t.top.fs = f :: r) : st t t.frame.pc t.top.ws = t := by
 have e : t.ths[t.hand]? = some t.top := by simp [Tk.top, Tk.th, ht]
 have ef : t.frame = f := by simp [Tk.frame, h]
 unfold st
 rw [ef, h]
 have e2 : ({ t.top with ws := t.top.ws, fs := { f with pc := f.pc } :: (f :: r).tail } : Th) = t.top := by
  show (⟨t.top.ws, f :: r, t.top.stands, t.top.up⟩ : Th) = t.top
  rw [← h]
 rw [e2]
 unfold Tk.set
 have : t.ths.set t.hand t.top = t.ths := by
  apply List.ext_getElem?
  intro i
  rw [List.getElem?_set]
  split
  ·rename_i hi
   subst hi
   rw [e]
  ·rfl
 rw [this]
theorem st_step {t : Tk} (ht : t.hand < t.ths.length) (m : Md) (n : Nat) (ws : List Int) (rv : Int) {c : Ins} (h : (unit m t.frame.u).code[n]? = some c) : (st t n ws).step m rv = (st t (n + 1) ws).act m c rv := by
 unfold Tk.step
 rw [st_ins ht m n ws h, st_goto ht, st_frame ht]
inductive Runs (m : Md) : Nat → Tk → Tk → Prop
 | none (t : Tk) : Runs m 0 t t
 | more (k : Nat) (t t' : Tk) : t.over = 0 → (t.ins m).op ≠ 26 → (t.ins m).op ≠ 27 → (∀ rv, Runs m k (t.step m rv) t') → Runs m (k + 1) t t'
theorem runs_st {m : Md} {t : Tk} (ht : t.hand < t.ths.length) (h0 : t.over = 0) {n k : Nat} {ws : List Int} {c : Ins} {t' : Tk} (h : (unit m t.frame.u).code[n]? = some c) (ho : c.op ≠ 26) (ho2 : c.op ≠ 27) (hr : ∀ rv, Runs m k ((st t (n + 1) ws).act m c rv) t') : Runs m (k + 1) (st t n ws) t' :=
 .more k _ _ h0 (by rw [st_ins ht m n ws h]; exact ho) (by rw [st_ins ht m n ws h]; exact ho2) (fun rv => by rw [st_step ht m n ws rv h]; exact hr rv)
theorem const_act (m : Md) (c : Ins) (t : Tk) (rv : Int) (h : c.op = 1 ∨ c.op = 2) : t.act m c rv = t.put (word c) := by
 unfold Tk.act word
 rcases h with h | h <;> simp [h]
theorem jump_act (m : Md) (c : Ins) (t : Tk) (rv : Int) (h : c.op = 21) : t.act m c rv = t.goto c.a.toNat := by
 unfold Tk.act
 simp [h]
theorem else_act (m : Md) (c : Ins) (t : Tk) (rv : Int) (h : c.op = 22) : t.act m c rv = if t.last = 0 then t.cut.goto c.a.toNat else t.cut := by
 unfold Tk.act
 simp [h]
theorem drop_act (m : Md) (c : Ins) (t : Tk) (rv : Int) (h : c.op = 5) : t.act m c rv = t.cut := by
 unfold Tk.act
 simp [h]
theorem neg_act (m : Md) (c : Ins) (t : Tk) (rv : Int) (h : c.op = 6) : t.act m c rv = t.cut.put (wrap (-t.last)) := by
 unfold Tk.act
 simp [h]
theorem not_act (m : Md) (c : Ins) (t : Tk) (rv : Int) (h : c.op = 7) : t.act m c rv = t.cut.put (wrap (1 - t.last)) := by
 unfold Tk.act
 simp [h]
theorem load_act (m : Md) (c : Ins) (t : Tk) (rv : Int) (h : c.op = 3) : t.act m c rv = t.put ((t.top.ws[t.frame.base + c.a.toNat]?).getD 0) := by
 unfold Tk.act
 simp [h]
theorem two_act (m : Md) (c : Ins) (t : Tk) (rv : Int) {k : Int} (h : reckons k c.op = true) : t.act m c rv = t.reckon c.op := by
 have : 8 ≤ c.op ∧ c.op ≤ 20 := by
  unfold reckons at h
  split at h
  ·simp at h; omega
  ·split at h
   ·simp at h; omega
   ·cases h
 unfold Tk.act
 rw [if_neg (by omega), if_neg (by omega), if_neg (by omega), if_neg (by omega), if_neg (by omega), if_neg (by omega), if_neg (by omega), if_neg (by omega), if_neg (by omega), if_neg (by omega), if_neg (by omega), if_neg (by omega), if_neg (by omega), if_neg (by omega), if_neg (by omega), if_neg (by omega), if_neg (by omega), if_neg (by omega), if_neg (by omega)]
end Ot
namespace Ot
open Vf Vm
theorem last_of (ws : List Int) (v : Int) : ((ws ++ [v]).getLast?).getD 0 = v := by simp
theorem cut_of (ws : List Int) (v : Int) : (ws ++ [v]).dropLast = ws := by simp
theorem pass_code (m : Md) (n : Int) : (unit (pass m) n).code = over (unit m n).code := by rw [pass_unit]; rfl
theorem over_at {l : List Ins} {x : Nat} (h : Begins (all l) x) {c : Ins} (hc : (change l x).2 = [c]) : (over l)[now (all l) x]? = some (moved (all l) c) := by
 unfold over
 rw [List.getElem?_map, (put_at h hc).1]
 rfl
theorem moved_no (ps : List (Nat × Ch)) {c : Ins} (h : jmp c = false) : moved ps c = c := by unfold moved; simp [h]
def Full (t : Tk) : Prop := t.over = 5 ∧ t.trap = 4
structure Way (m : Md) (t : Tk) (g p : Nat) (t' : Tk) : Prop where
 old : Runs m g t t'
 new : Runs (pass m) p (mv m t) (mv m t')
 less : p ≤ g
 pos : 0 < g
def Goes2 (m : Md) (t : Tk) : Prop := (∃ k t', Runs m k t t' ∧ Full t') ∨ ∃ g p n ws, Way m t g p (st t n ws) ∧ Begins (all (unit m t.frame.u).code) n
theorem const_op {a : Ins} (h : a.op = 1 ∨ a.op = 2) : a.op ≠ 26 ∧ a.op ≠ 27 := by omega
theorem runs_full {m : Md} {t : Tk} (ht : t.hand < t.ths.length) (h0 : t.over = 0) {n : Nat} {ws : List Int} {c : Ins} (h : (unit m t.frame.u).code[n]? = some c) (hc : c.op = 1 ∨ c.op = 2 ∨ c.op = 3) (hw : ws.length = 400) : ∃ t', Runs m 1 (st t n ws) t' ∧ Full t' := by
 refine ⟨(st t (n + 1) ws).fall 4, runs_st ht h0 h (by omega) (by omega) (fun rv => ?_), rfl, rfl⟩
 have e : ∀ v, (st t (n + 1) ws).put v = (st t (n + 1) ws).fall 4 := fun v => by rw [st_put ht, if_pos hw]
 have : (st t (n + 1) ws).act m c rv = (st t (n + 1) ws).fall 4 := by
  rcases hc with hc | hc | hc
  ·rw [const_act m c _ rv (.inl hc), e]
  ·rw [const_act m c _ rv (.inr hc), e]
  ·rw [load_act m c _ rv hc, e]
 rw [this]
 exact .none _
theorem runs_const {m : Md} {t : Tk} (ht : t.hand < t.ths.length) (h0 : t.over = 0) {n k : Nat} {ws : List Int} {c : Ins} {t' : Tk} (h : (unit m t.frame.u).code[n]? = some c) (hc : c.op = 1 ∨ c.op = 2) (hw : ws.length ≠ 400) (hr : Runs m k (st t (n + 1) (ws ++ [word c])) t') : Runs m (k + 1) (st t n ws) t' := by
 refine runs_st ht h0 h (const_op hc).1 (const_op hc).2 (fun rv => ?_)
 rw [const_act m c _ rv hc, st_put ht, if_neg hw]
 exact hr
theorem runs_two {m : Md} {t : Tk} (ht : t.hand < t.ths.length) (h0 : t.over = 0) {n k : Nat} {ws : List Int} {c : Ins} {kd a b : Int} {t' : Tk} (h : (unit m t.frame.u).code[n]? = some c) (hk : reckons kd c.op = true) (hz : ¬ (b = 0 ∧ (c.op = 11 ∨ c.op = 12))) (hw : ws.length ≠ 400) (hr : Runs m k (st t (n + 1) (ws ++ [two c.op a b])) t') : Runs m (k + 1) (st t n (ws ++ [a] ++ [b])) t' := by
 have ho : c.op ≤ 20 := by
  unfold reckons at hk
  split at hk
  ·simp at hk; omega
  ·split at hk
   ·simp at hk; omega
   ·cases hk
 refine runs_st ht h0 h (by omega) (by omega) (fun rv => ?_)
 rw [two_act m c _ rv hk]
 unfold Tk.reckon
 rw [st_last ht, st_cut ht, st_last ht, st_cut ht, last_of, cut_of, last_of, cut_of, if_neg hz, st_put ht, if_neg hw]
 exact hr
end Ot
namespace Ot
open Vf Vm
theorem mv_at {m : Md} {t : Tk} (ht : t.hand < t.ths.length) {f : Wk} {r : List Wk} (hf : t.top.fs = f :: r) : (mv m t).hand < (mv m t).ths.length ∧ (mv m t).frame.u = t.frame.u ∧ st (mv m t) (now (all (unit m t.frame.u).code) t.frame.pc) t.top.ws = mv m t := by
 have h1 : (mv m t).hand < (mv m t).ths.length := by simp [mv]; exact ht
 have h2 : (mv m t).frame = mvF m t.frame := mv_frame m t
 refine ⟨h1, by rw [h2]; rfl, ?_⟩
 have h3 : (mv m t).top.fs = mvF m f :: r.map (mvF m) := by rw [mv_top]; simp [mvH, hf]
 have := st_self h1 h3
 rw [h2, mv_ws] at this
 exact this
theorem way_none {m : Md} {t : Tk} (ht : t.hand < t.ths.length) {f : Wk} {r : List Wk} (hf : t.top.fs = f :: r) {g : Nat} (hb : Begins (all (unit m t.frame.u).code) t.frame.pc) (hg : 0 < g) (hc : (change (unit m t.frame.u).code t.frame.pc).2 = [])
  (hr : Runs m g t (st t (t.frame.pc + (change (unit m t.frame.u).code t.frame.pc).1) t.top.ws)) : Goes2 m t := by
 obtain ⟨_, _, e⟩ := mv_at (m := m) ht hf
 refine .inr ⟨g, 0, _, _, ⟨hr, ?_, Nat.zero_le _, hg⟩, begins_next hb (not_stay hc)⟩
 rw [mv_st, begins_now hb, hc]
 simp only [List.length_nil, Nat.add_zero]
 rw [e]
 exact .none _
theorem way_const {m : Md} {t : Tk} (ht : t.hand < t.ths.length) (h0 : t.over = 0) {f : Wk} {r : List Wk} (hf : t.top.fs = f :: r) {g : Nat} {c : Ins} (hb : Begins (all (unit m t.frame.u).code) t.frame.pc) (hg : 0 < g) (hc : (change (unit m t.frame.u).code t.frame.pc).2 = [c]) (hl : t.frame.pc + (change (unit m t.frame.u).code t.frame.pc).1 < (unit m t.frame.u).code.length) (ho : c.op = 1 ∨ c.op = 2) (hw : t.top.ws.length ≠ 400)
  (hr : Runs m g t (st t (t.frame.pc + (change (unit m t.frame.u).code t.frame.pc).1) (t.top.ws ++ [word c]))) : Goes2 m t := by
 obtain ⟨e1, e2, e⟩ := mv_at (m := m) ht hf
 refine .inr ⟨g, 1, _, _, ⟨hr, ?_, hg, hg⟩, begins_next hb hl⟩
 rw [mv_st, begins_now hb, hc]
 have hj : jmp c = false := by unfold jmp; rcases ho with h | h <;> simp [h]
 have hat : (unit (pass m) (mv m t).frame.u).code[now (all (unit m t.frame.u).code) t.frame.pc]? = some c := by
  rw [e2, pass_code, over_at hb hc, moved_no _ hj]
 have := runs_const (m := pass m) (t := mv m t) e1 h0 (k := 0) hat ho hw (.none _)
 rw [e] at this
 exact this
theorem goes2_rule {m : Md} {t : Tk} (ht : t.hand < t.ths.length) (h0 : t.over = 0) {f : Wk} {r : List Wk} (hf : t.top.fs = f :: r) (hJ : Jumps (unit m t.frame.u).code) (hb : Begins (all (unit m t.frame.u).code) t.frame.pc) (hn : change (unit m t.frame.u).code t.frame.pc ≠ (1, [((unit m t.frame.u).code[t.frame.pc]?).getD i0])) : Goes2 m t := by
 have e0 := st_self ht hf
 obtain ⟨e1, e2, e⟩ := mv_at (m := m) ht hf
 have hcl := change_len (unit m t.frame.u).code t.frame.pc
 rcases change_form (unit m t.frame.u).code t.frame.pc with h | ⟨_, h⟩
 ·exact absurd h hn
 rcases hcl.2.2 with h' | ⟨_, hl, _⟩
 ·exact absurd h' hn
 -- a full stack
 have full : ∀ {c : Ins}, (unit m t.frame.u).code[t.frame.pc]? = some c → (c.op = 1 ∨ c.op = 2 ∨ c.op = 3) → t.top.ws.length = 400 → Goes2 m t := fun hc ho hw => by
  obtain ⟨t', h1, h2⟩ := runs_full (m := m) ht h0 (ws := t.top.ws) hc ho hw
  rw [e0] at h1
  exact .inl ⟨1, t', h1, h2⟩
 rcases h with ⟨a, b, c, hr, ec⟩ | ⟨a, b, hr, ec⟩ | ⟨a, b, hr, ec⟩ | ⟨a, b, hr, ec⟩ | ⟨a, b, hr, ec⟩ | ⟨a, h1, h2, h3, ec⟩
 ·obtain ⟨ka, _⟩ := kind_of hr.rk
  have kb : b.op = 1 ∨ b.op = 2 := by rw [← hr.same]; exact ka
  by_cases hw : t.top.ws.length = 400
  ·exact full hr.h0 (by omega) hw
  by_cases hw2 : t.top.ws.length = 399
  ·obtain ⟨t', i1, i2⟩ := runs_full (m := m) ht h0 (ws := t.top.ws ++ [word a]) hr.h1 (by omega) (by simp [hw2])
   have := runs_const (m := m) ht h0 hr.h0 ka hw i1
   rw [e0] at this
   exact .inl ⟨2, t', this, i2⟩
  have hcm : (comes a b c).op = 1 ∨ (comes a b c).op = 2 := by unfold comes; split <;> simp
  have hwd : word (comes a b c) = two c.op (word a) (word b) := by unfold comes; split <;> simp [word]
  refine way_const ht h0 hf (g := 3) (c := comes a b c) hb (by omega) (by rw [ec]) hl hcm hw ?_
  rw [ec, hwd]
  have := runs_const (m := m) ht h0 hr.h0 ka hw (runs_const (m := m) ht h0 hr.h1 kb (by simp; omega) (runs_two (m := m) ht h0 hr.h2 hr.rk hr.nz hw (.none _)))
  rw [e0] at this
  exact this
 ·have ha : a.op = 1 ∨ a.op = 2 ∨ a.op = 3 := by have := hr.op0; simpa using this
  by_cases hw : t.top.ws.length = 400
  ·exact full hr.h0 ha hw
  refine way_none ht hf (g := 2) hb (by omega) (by rw [ec]) ?_
  rw [ec]
  have hd : ∀ v, Runs m 1 (st t (t.frame.pc + 1) (t.top.ws ++ [v])) (st t (t.frame.pc + 2) t.top.ws) := fun v => by
   refine runs_st ht h0 hr.h1 (by have := hr.op1; omega) (by have := hr.op1; omega) (fun rv => ?_)
   rw [drop_act m b _ rv hr.op1, st_cut ht, cut_of]
   exact .none _
  have := runs_st (m := m) ht h0 (ws := t.top.ws) (k := 1) (t' := st t (t.frame.pc + 2) t.top.ws) hr.h0 (by omega) (by omega) (fun rv => by
   rcases ha with ha | ha | ha
   ·rw [const_act m a _ rv (.inl ha), st_put ht, if_neg hw]; exact hd _
   ·rw [const_act m a _ rv (.inr ha), st_put ht, if_neg hw]; exact hd _
   ·rw [load_act m a _ rv ha, st_put ht, if_neg hw]; exact hd _)
  rw [e0] at this
  exact this
 ·have ha : a.op = 1 := by have := hr.op0; simpa using this
  by_cases hw : t.top.ws.length = 400
  ·exact full hr.h0 (.inl ha) hw
  refine way_const ht h0 hf (g := 2) (c := ⟨1, 0, wrap (-a.n)⟩) hb (by omega) (by rw [ec]; rfl) hl (.inl rfl) hw ?_
  rw [ec]
  have h2 : Runs m 1 (st t (t.frame.pc + 1) (t.top.ws ++ [word a])) (st t (t.frame.pc + 2) (t.top.ws ++ [wrap (-a.n)])) := by
   refine runs_st ht h0 hr.h1 (by have := hr.op1; omega) (by have := hr.op1; omega) (fun rv => ?_)
   rw [neg_act m b _ rv hr.op1, st_cut ht, st_last ht, cut_of, last_of, st_put ht, if_neg hw]
   simp only [word, ha, if_true]
   exact .none _
  have := runs_const (m := m) ht h0 hr.h0 (.inl ha) hw h2
  rw [e0] at this
  exact this
 ·have ha : a.op = 2 := by have := hr.op0; simpa using this
  by_cases hw : t.top.ws.length = 400
  ·exact full hr.h0 (.inr (.inl ha)) hw
  refine way_const ht h0 hf (g := 2) (c := ⟨2, wrap (1 - a.a), 0⟩) hb (by omega) (by rw [ec]; rfl) hl (.inr rfl) hw ?_
  rw [ec]
  have h2 : Runs m 1 (st t (t.frame.pc + 1) (t.top.ws ++ [word a])) (st t (t.frame.pc + 2) (t.top.ws ++ [wrap (1 - a.a)])) := by
   refine runs_st ht h0 hr.h1 (by have := hr.op1; omega) (by have := hr.op1; omega) (fun rv => ?_)
   rw [not_act m b _ rv hr.op1, st_cut ht, st_last ht, cut_of, last_of, st_put ht, if_neg hw]
   simp only [word, ha]
   exact .none _
  have := runs_const (m := m) ht h0 hr.h0 (.inr ha) hw h2
  rw [e0] at this
  exact this
 ·have ha : a.op = 2 := by have := hr.op0; simpa using this
  have hwa : word a = a.a := by simp [word, ha]
  by_cases hw : t.top.ws.length = 400
  ·exact full hr.h0 (.inr (.inl ha)) hw
  by_cases hz : a.a = 0
  ·have hjb : jmp b = true := by unfold jmp; simp [hr.op1]
   obtain ⟨j1, j2⟩ := hJ b (mem_at hr.h1) hjb
   have hbb : Begins (all (unit m t.frame.u).code) b.a.toNat := by
    refine begins_aimed (by omega) ?_
    unfold aimed
    rw [List.any_eq_true]
    exact ⟨b, mem_at hr.h1, by rw [hjb]; simp; omega⟩
   have h2 : Runs m 1 (st t (t.frame.pc + 1) (t.top.ws ++ [word a])) (st t b.a.toNat t.top.ws) := by
    refine runs_st ht h0 hr.h1 (by have := hr.op1; omega) (by have := hr.op1; omega) (fun rv => ?_)
    rw [else_act m b _ rv hr.op1, st_cut ht, st_last ht, cut_of, last_of, if_pos (by rw [hwa, hz]), st_goto ht]
    exact .none _
   have hold := runs_const (m := m) ht h0 hr.h0 (.inr ha) hw h2
   rw [e0] at hold
   refine .inr ⟨2, 1, _, _, ⟨hold, ?_, by omega, by omega⟩, hbb⟩
   rw [mv_st]
   have hp : (change (unit m t.frame.u).code t.frame.pc).2 = [⟨21, b.a, 0⟩] := by rw [ec]; simp [put5, hz]
   have hat : (unit (pass m) (mv m t).frame.u).code[now (all (unit m t.frame.u).code) t.frame.pc]? = some (moved (all (unit m t.frame.u).code) ⟨21, b.a, 0⟩) := by
    rw [e2, pass_code, over_at hb hp]
   have hm : moved (all (unit m t.frame.u).code) ⟨21, b.a, 0⟩ = ⟨21, (now (all (unit m t.frame.u).code) b.a.toNat : Nat), 0⟩ := rfl
   rw [hm] at hat
   have := runs_st (m := pass m) (t := mv m t) e1 h0 (k := 0) (ws := t.top.ws) (t' := st (mv m t) (now (all (unit m t.frame.u).code) b.a.toNat) t.top.ws) hat (by simp) (by simp) (fun rv => by
    rw [jump_act _ _ _ rv rfl, st_goto e1]
    exact .none _)
   rw [e] at this
   exact this
  ·refine way_none ht hf (g := 2) hb (by omega) (by rw [ec]; simp [put5, hz]) ?_
   rw [ec]
   have h2 : Runs m 1 (st t (t.frame.pc + 1) (t.top.ws ++ [word a])) (st t (t.frame.pc + 2) t.top.ws) := by
    refine runs_st ht h0 hr.h1 (by have := hr.op1; omega) (by have := hr.op1; omega) (fun rv => ?_)
    rw [else_act m b _ rv hr.op1, st_cut ht, st_last ht, cut_of, last_of, if_neg (by rw [hwa]; exact hz)]
    exact .none _
   have := runs_const (m := m) ht h0 hr.h0 (.inr ha) hw h2
   rw [e0] at this
   exact this
 ·refine way_none ht hf (g := 1) hb (by omega) (by rw [ec]) ?_
  rw [ec]
  have := runs_st (m := m) ht h0 (ws := t.top.ws) (k := 0) (t' := st t (t.frame.pc + 1) t.top.ws) h1 (by omega) (by omega) (fun rv => by
   rw [jump_act m a _ rv h2, st_goto ht, h3]
   exact .none _)
  rw [e0] at this
  exact this
end Ot
end Go.Proofs.YtlbihbfgglnfnaaGreat
