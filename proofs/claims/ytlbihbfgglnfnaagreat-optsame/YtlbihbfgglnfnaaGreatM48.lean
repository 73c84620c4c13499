/- Shorter code runs as the longer one, plainly: units at work stand where pieces begin; what stays does the same. -/
import Derived.Test.YtlbihbfgglnfnaaGreatM47
import Derived.Test.YtlbihbfgglnfnaaGreatM36
import Derived.Test.YtlbihbfgglnfnaaGreatM45
namespace Go.Proofs.YtlbihbfgglnfnaaGreat
namespace Ot
open Vf Vm
def Bg (m : Md) (f : Wk) : Prop := Begins (all (unit m f.u).code) f.pc ∨ (unit m f.u).code.length ≤ f.pc
def BgH (m : Md) (h : Th) : Prop := ∀ f ∈ h.fs, Bg m f
def BgT (m : Md) (t : Tk) : Prop := ∀ (i : Nat) (h : Th), t.ths[i]? = some h → BgH m h
theorem bg_if {m : Md} {p : Prop} [Decidable p] {a b : Tk} (h1 : p → BgT m a) (h2 : BgT m b) : BgT m (if p then a else b) := by
 by_cases h : p
 ·rw [if_pos h]; exact h1 h
 ·rw [if_neg h]; exact h2
theorem bg_zero (m : Md) (u b : Nat) : Bg m ⟨u, 0, b⟩ := by
 by_cases h : 0 < (unit m u).code.length
 ·exact .inl (begins_zero h)
 ·exact .inr (by show (unit m u).code.length ≤ 0; omega)
theorem bg_th {m : Md} {t : Tk} (hB : BgT m t) (i : Nat) : BgH m (t.th i) := by
 unfold Tk.th
 cases h : t.ths[i]? with
 | none => exact fun f hf => by cases hf
 | some x => exact hB i x h
theorem bg_top {m : Md} {t : Tk} (hB : BgT m t) : BgH m t.top := bg_th hB _
theorem bg_set {m : Md} {t : Tk} (hB : BgT m t) (i : Nat) {h : Th} (hh : BgH m h) : BgT m (t.set i h) := fun j x hx => by
 unfold Tk.set at hx
 simp only [List.getElem?_set] at hx
 split at hx
 ·split at hx
  ·cases hx; exact hh
  ·cases hx
 ·exact hB j x hx
theorem bg_words {m : Md} {t : Tk} (hB : BgT m t) (ws : List Int) : BgT m (t.words ws) := bg_set hB _ (bg_top hB)
theorem bg_fall {m : Md} {t : Tk} (hB : BgT m t) (n : Nat) : BgT m (t.fall n) := hB
theorem bg_note {m : Md} {t : Tk} (hB : BgT m t) (e : Ev) : BgT m (t.note e) := hB
theorem bg_put {m : Md} {t : Tk} (hB : BgT m t) (v : Int) : BgT m (t.put v) := by
 unfold Tk.put
 split
 ·exact bg_fall hB _
 ·exact bg_words hB _
theorem bg_cut {m : Md} {t : Tk} (hB : BgT m t) : BgT m t.cut := bg_words hB _
theorem bg_goto {m : Md} {t : Tk} (hB : BgT m t) {n : Nat} (hn : Bg m { t.frame with pc := n }) : BgT m (t.goto n) := by
 refine bg_set hB _ (fun f hf => ?_)
 rcases List.mem_cons.1 hf with rfl | hf
 ·exact hn
 ·exact bg_top hB f (List.mem_of_mem_tail hf)
theorem bg_call {m : Md} {t : Tk} (hB : BgT m t) (n : Nat) : BgT m (t.call m n) := by
 unfold Tk.call
 split
 ·exact bg_fall hB _
 ·split
  ·refine bg_set hB _ (fun f hf => ?_)
   rcases List.mem_cons.1 hf with rfl | hf
   ·exact bg_zero m _ _
   ·exact bg_top hB f hf
  ·exact bg_fall (bg_words hB _) _
theorem bg_leave {m : Md} {t : Tk} (hB : BgT m t) : BgT m t.leave := bg_set hB _ (fun f hf => bg_top hB f (List.mem_of_mem_tail hf))
theorem bg_add {m : Md} {t : Tk} (hB : BgT m t) {h : Th} (hh : BgH m h) : BgT m { t with ths := t.ths ++ [h] } := fun i x hx => by
 have hx : (t.ths ++ [h])[i]? = some x := hx
 rw [List.getElem?_append] at hx
 split at hx
 ·exact hB i x hx
 ·rw [List.getElem?_singleton] at hx
  split at hx
  ·cases hx; exact hh
  ·cases hx
theorem bg_hand {m : Md} {t : Tk} (hB : BgT m t) (n : Nat) : BgT m { t with hand := n } := hB
theorem bg_ret {m : Md} {t : Tk} (hB : BgT m t) : BgT m t.ret := bg_put (bg_leave (bg_cut hB)) _
theorem bg_start {m : Md} {t : Tk} (hB : BgT m t) (n : Nat) : BgT m (t.start m n) := by
 unfold Tk.start
 simp only []
 split
 ·exact bg_fall (bg_words hB _) _
 ·refine bg_put (bg_note (bg_add (bg_words hB _) (fun f hf => ?_)) _) _
  have hf : f ∈ [(⟨n, 0, 0⟩ : Wk)] := hf
  rcases List.mem_singleton.1 hf with rfl
  exact bg_zero m _ _
theorem bg_give {m : Md} {t : Tk} (hB : BgT m t) (s : Nat) (v : Int) : BgT m (t.give s v) := by
 unfold Tk.give
 exact bg_put (bg_hand (bg_set hB _ (h := { t.top with stands := s }) (bg_top hB)) _) _
theorem bg_fin {m : Md} {t : Tk} (hB : BgT m t) : BgT m t.fin := by
 unfold Tk.fin
 split
 ·exact hB
 ·exact bg_give hB _ _
theorem bg_resume {m : Md} {t : Tk} (hB : BgT m t) : BgT m t.resume := by
 have h2 := bg_cut (bg_cut hB)
 unfold Tk.resume
 simp only []
 split
 ·exact bg_fall h2 _
 ·split
  ·exact bg_fall h2 _
  ·have h3 := bg_hand (bg_set h2 t.cut.last.toNat (h := { t.cut.cut.th t.cut.last.toNat with stands := 2, up := some t.cut.cut.hand }) (bg_th h2 _)) t.cut.last.toNat
   split
   ·exact bg_put h3 _
   ·exact h3
theorem bg_reckon {m : Md} {t : Tk} (hB : BgT m t) (op : Int) : BgT m (t.reckon op) := by
 unfold Tk.reckon
 split
 ·exact bg_fall (bg_cut (bg_cut hB)) _
 ·exact bg_put (bg_cut (bg_cut hB)) _
theorem cut_frame {t : Tk} : t.cut.frame = t.frame := by
 have : t.cut.top.fs = t.top.fs := by
  unfold Tk.cut Tk.words Tk.set
  by_cases h : t.hand < t.ths.length
  ·simp [Tk.top, Tk.th, h]
  ·simp [Tk.top, Tk.th, h]
 unfold Tk.frame
 rw [this]
theorem bg_act {m : Md} {t : Tk} (hB : BgT m t) (c : Ins) (rv : Int) (hj : jmp c = true → Bg m { t.frame with pc := c.a.toNat }) : BgT m (t.act m c rv) := by
 have hc := bg_cut hB
 unfold Tk.act
 refine bg_if (fun _ => bg_put hB _) ?_
 refine bg_if (fun _ => bg_put hB _) ?_
 refine bg_if (fun _ => bg_put hB _) ?_
 refine bg_if (fun _ => bg_words hB _) ?_
 refine bg_if (fun _ => hc) ?_
 refine bg_if (fun _ => bg_put hc _) ?_
 refine bg_if (fun _ => bg_put hc _) ?_
 refine bg_if (fun h => bg_goto hB (hj (by simp [jmp, h]))) ?_
 refine bg_if (fun h => bg_if (fun _ => bg_goto hc (by rw [cut_frame]; exact hj (by simp [jmp, h]))) hc) ?_
 refine bg_if (fun _ => bg_note hc _) ?_
 refine bg_if (fun _ => bg_put (bg_note hB _) _) ?_
 refine bg_if (fun _ => bg_note (t := { t.cut with out := t.out ++ [t.last] }) hc _) ?_
 refine bg_if (fun _ => bg_call hB _) ?_
 refine bg_if (fun _ => bg_ret hB) ?_
 refine bg_if (fun _ => bg_start hB _) ?_
 refine bg_if (fun _ => bg_resume hB) ?_
 refine bg_if (fun _ => bg_give hc _ _) ?_
 refine bg_if (fun _ => bg_fin hB) ?_
 refine bg_if (fun _ => bg_put hc _) ?_
 exact bg_reckon hB _
theorem goto_st (t : Tk) (n : Nat) : t.goto n = st t n t.top.ws := rfl
theorem mv_jump (m : Md) (c : Ins) (t : Tk) (rv : Int) (hj : jmp c = true) : (mv m t).act (pass m) (moved (all (unit m t.frame.u).code) c) rv = mv m (t.act m c rv) := by
 have hm : moved (all (unit m t.frame.u).code) c = { c with a := (now (all (unit m t.frame.u).code) c.a.toNat : Nat) } := by unfold moved; rw [if_pos hj]
 rw [hm]
 have ho : c.op = 21 ∨ c.op = 22 := by simpa [jmp] using hj
 rcases ho with ho | ho
 ·rw [jump_act (pass m) { c with a := (now (all (unit m t.frame.u).code) c.a.toNat : Nat) } (mv m t) rv ho, jump_act m c t rv ho]
  exact mv_goto m t _
 ·rw [else_act (pass m) { c with a := (now (all (unit m t.frame.u).code) c.a.toNat : Nat) } (mv m t) rv ho, else_act m c t rv ho, mv_last, mv_cut]
  split
  ·have := mv_goto m t.cut c.a.toNat
   rw [cut_frame] at this
   exact this
  ·rfl
theorem stay_step {m : Md} {t : Tk} (ht : t.hand < t.ths.length) (hJ : Jumps (unit m t.frame.u).code) (hb : Begins (all (unit m t.frame.u).code) t.frame.pc) (hB : BgT m t) {c : Ins} (hc : (unit m t.frame.u).code[t.frame.pc]? = some c) (hs : change (unit m t.frame.u).code t.frame.pc = (1, [c])) :
  t.ins m = c ∧ (mv m t).ins (pass m) = moved (all (unit m t.frame.u).code) c ∧ ∀ rv, (mv m t).step (pass m) rv = mv m (t.step m rv) ∧ BgT m (t.step m rv) := by
 have i1 : t.ins m = c := by unfold Tk.ins; rw [hc]; rfl
 have i2 : (mv m t).ins (pass m) = moved (all (unit m t.frame.u).code) c := by
  unfold Tk.ins
  rw [mv_frame]
  show ((unit (pass m) t.frame.u).code[now (all (unit m t.frame.u).code) t.frame.pc]?).getD _ = _
  rw [pass_code, over_at hb (by rw [hs])]
  rfl
 have hnow : now (all (unit m t.frame.u).code) (t.frame.pc + 1) = now (all (unit m t.frame.u).code) t.frame.pc + 1 := by
  have := begins_now hb
  rw [hs] at this
  exact this
 have hbn : Bg m { t.frame with pc := t.frame.pc + 1 } := by
  by_cases hl : t.frame.pc + 1 < (unit m t.frame.u).code.length
  ·have := begins_next hb (by rw [hs]; exact hl)
   rw [hs] at this
   exact .inl this
  ·exact .inr (by show (unit m t.frame.u).code.length ≤ t.frame.pc + 1; omega)
 have hf : (t.goto (t.frame.pc + 1)).frame = { t.frame with pc := t.frame.pc + 1 } := by rw [goto_st, st_frame ht]
 refine ⟨i1, i2, fun rv => ⟨?_, ?_⟩⟩
 ·unfold Tk.step
  rw [i1, i2, mv_frame]
  show (Tk.goto (mv m t) (now (all (unit m t.frame.u).code) t.frame.pc + 1)).act (pass m) _ rv = _
  rw [← hnow, mv_goto]
  cases hj : jmp c with
  | false => rw [moved_no _ hj]; exact mv_act m c _ rv hj
  | true =>
   have := mv_jump m c (t.goto (t.frame.pc + 1)) rv hj
   rw [hf] at this
   exact this
 ·unfold Tk.step
  rw [i1]
  refine bg_act (bg_goto hB hbn) c rv (fun hj => ?_)
  rw [hf]
  obtain ⟨j1, j2⟩ := hJ c (mem_at hc) hj
  refine .inl (begins_aimed (show c.a.toNat < (unit m t.frame.u).code.length by omega) ?_)
  unfold aimed
  rw [List.any_eq_true]
  exact ⟨c, mem_at hc, by rw [hj]; simp; omega⟩
end Ot
namespace Ot
open Vf Vm Vw
section
variable {β : Type} {X : Bxs β} {m : Md}
theorem goy {n : Nat} {t : Tk} {x : β} (h : (stat X m t x).1 = 1) : go X m (n + 1) t x = ((go X m n (one X m t x).1 (one X m t x).2).1 + 1, (go X m n (one X m t x).1 (one X m t x).2).2) := by
 show (if (stat X m t x).1 = 1 then _ else _ : Nat × Tk × β) = _
 rw [if_pos h]
theorem gon {n : Nat} {t : Tk} {x : β} (h : ¬ (stat X m t x).1 = 1) : go X m n t x = (0, t, x) := by
 cases n with
 | zero => rfl
 | succ n =>
  show (if (stat X m t x).1 = 1 then _ else _ : Nat × Tk × β) = _
  rw [if_neg h]
theorem stat_talk {t : Tk} {x : β} (h0 : t.over = 0) (h1 : (t.ins m).op ≠ 26) (h2 : (t.ins m).op ≠ 27) : stat X m t x = (1, 0) := by
 unfold stat
 rw [if_neg (by simp [h0]), if_neg (by simp [h1]), if_neg (by simp [h2])]
theorem one_talk {t : Tk} {x : β} (h1 : (t.ins m).op ≠ 26) (h2 : (t.ins m).op ≠ 27) : (one X m t x).2 = x := by
 show stX X (t.ins m) _ x = x
 unfold stX
 rw [if_neg h1, if_neg h2]
theorem runs_go {k : Nat} {t t' : Tk} (h : Runs m k t t') (n : Nat) (x : β) : go X m (n + k) t x = ((go X m n t' x).1 + k, (go X m n t' x).2) := by
 induction h with
 | none t => rfl
 | more k t t' h0 h1 h2 _ ih =>
  have hs : (stat X m t x).1 = 1 := by rw [stat_talk h0 h1 h2]
  rw [← Nat.add_assoc, goy hs, one_talk h1 h2]
  have := ih (X.head x (t.ins m).a.toNat)
  show ((go X m (n + k) (t.step m (X.head x (t.ins m).a.toNat)) x).1 + 1, (go X m (n + k) (t.step m (X.head x (t.ins m).a.toNat)) x).2) = _
  rw [this, Nat.add_assoc]
theorem runs_short {k : Nat} {t t' : Tk} (h : Runs m k t t') : ∀ (n : Nat) (x : β), n < k → (stat X m (go X m n t x).2.1 (go X m n t x).2.2).1 = 1 := by
 induction h with
 | none t => exact fun n x h => absurd h (Nat.not_lt_zero _)
 | more k t t' h0 h1 h2 _ ih =>
  intro n x hn
  have hs : (stat X m t x).1 = 1 := by rw [stat_talk h0 h1 h2]
  cases n with
  | zero => exact hs
  | succ n =>
   rw [goy hs, one_talk h1 h2]
   exact ih (X.head x (t.ins m).a.toNat) n x (by omega)
theorem runs_keep {I : Tk → β → Prop} (hI : ∀ t x, I t x → (stat X m t x).1 = 1 → I (one X m t x).1 (one X m t x).2) {k : Nat} {t t' : Tk} (h : Runs m k t t') (x : β) : I t x → I t' x := by
 induction h with
 | none t => exact id
 | more k t t' h0 h1 h2 _ ih =>
  intro hi
  have := hI t x hi (by rw [stat_talk h0 h1 h2])
  rw [one_talk h1 h2] at this
  exact ih (X.head x (t.ins m).a.toNat) this
theorem act_same (m : Md) (c : Ins) (t : Tk) (a b : Int) (h : c.op ≠ 27) : t.act m c a = t.act m c b := by
 unfold Tk.act
 simp only [h, if_false]
theorem step_same (m : Md) (t : Tk) (a b : Int) (h : (t.ins m).op ≠ 27) : t.step m a = t.step m b := act_same m _ _ a b h
theorem moved_op (ps : List (Nat × Ch)) (c : Ins) : (moved ps c).op = c.op := by unfold moved; split <;> rfl
def Here2 (m : Md) (t : Tk) : Prop := t.hand < t.ths.length ∧ ∃ f r c, t.top.fs = f :: r ∧ (unit m t.frame.u).code[t.frame.pc]? = some c
theorem here_begins {t : Tk} (h : Here2 m t) (hB : BgT m t) : Begins (all (unit m t.frame.u).code) t.frame.pc := by
 obtain ⟨_, f, r, c, hf, hc⟩ := h
 have ef : t.frame = f := by simp [Tk.frame, hf]
 have : Bg m t.frame := by rw [ef]; exact bg_top hB f (by rw [hf]; exact List.mem_cons_self)
 rcases this with h | h
 ·exact h
 ·have := (List.getElem?_eq_some_iff.1 hc).1; omega
theorem stay_stat {t : Tk} {c : Ins} (x : β) (ps : List (Nat × Ch)) (i1 : t.ins m = c) (i2 : (mv m t).ins (pass m) = moved ps c) : stat X (pass m) (mv m t) x = stat X m t x := by
 have ho : (mv m t).over = t.over := rfl
 unfold stat
 rw [i1, i2, ho, moved_op]
 cases hj : jmp c with
 | false => rw [moved_no _ hj]
 | true =>
  have h26 : c.op ≠ 26 := fun h => by simp [jmp, h] at hj
  have h27 : c.op ≠ 27 := fun h => by simp [jmp, h] at hj
  simp [h26, h27]
theorem stay_one {t : Tk} {c : Ins} (x : β) (hb : Begins (all (unit m t.frame.u).code) t.frame.pc) (hs : change (unit m t.frame.u).code t.frame.pc = (1, [c])) (i1 : t.ins m = c) (i2 : (mv m t).ins (pass m) = moved (all (unit m t.frame.u).code) c) (h : ∀ rv, (mv m t).step (pass m) rv = mv m (t.step m rv)) : one X (pass m) (mv m t) x = (mv m (one X m t x).1, (one X m t x).2) := by
 have hl : ((mv m t).goto ((mv m t).frame.pc + 1)).last = (t.goto (t.frame.pc + 1)).last := by
  have hnow : now (all (unit m t.frame.u).code) (t.frame.pc + 1) = now (all (unit m t.frame.u).code) t.frame.pc + 1 := by
   have := begins_now hb
   rw [hs] at this
   exact this
  rw [mv_frame]
  show (Tk.goto (mv m t) (now (all (unit m t.frame.u).code) t.frame.pc + 1)).last = _
  rw [← hnow, mv_goto, mv_last]
 unfold one
 rw [h, hl, i1, i2]
 cases hj : jmp c with
 | false => rw [moved_no _ hj]
 | true =>
  have h26 : c.op ≠ 26 := fun h => by simp [jmp, h] at hj
  have h27 : c.op ≠ 27 := fun h => by simp [jmp, h] at hj
  have e1 : ∀ v, stX X (moved (all (unit m t.frame.u).code) c) v x = x := fun v => by
   unfold stX
   rw [moved_op, if_neg h26, if_neg h27]
  have e2 : ∀ v, stX X c v x = x := fun v => by
   unfold stX
   rw [if_neg h26, if_neg h27]
  rw [e1, e2, step_same m t _ (X.head x c.a.toNat) (by rw [i1]; exact h27)]
theorem bg_st {t : Tk} (hB : BgT m t) {n : Nat} (ws : List Int) (hn : Begins (all (unit m t.frame.u).code) n) : BgT m (st t n ws) := by
 refine bg_set hB _ (fun f hf => ?_)
 rcases List.mem_cons.1 hf with rfl | hf
 ·exact .inl hn
 ·exact bg_top hB f (List.mem_of_mem_tail hf)
theorem go_pass {I : Tk → β → Prop} (hI : ∀ t x, I t x → (stat X m t x).1 = 1 → I (one X m t x).1 (one X m t x).2) (hat : ∀ t x, I t x → t.over = 0 → Here2 m t) (hov : ∀ t x, I t x → t.over ≠ 1) (hJ : ∀ n : Nat, Jumps (unit m n).code) :
  ∀ (n : Nat) (t : Tk) (x : β), I t x → BgT m t → (stat X m (go X m n t x).2.1 (go X m n t x).2.2).1 = 1 ∨ Full (go X m n t x).2.1 ∨
   ∀ d, ∃ k', k' ≤ (go X m n t x).1 ∧ go X (pass m) (n + d) (mv m t) x = (k', mv m (go X m n t x).2.1, (go X m n t x).2.2) ∧ stat X (pass m) (mv m (go X m n t x).2.1) (go X m n t x).2.2 = stat X m (go X m n t x).2.1 (go X m n t x).2.2 := by
 intro n
 induction n using Nat.strongRecOn with
 | ind n ih =>
  intro t x hi hB
  by_cases h0 : t.over ≠ 0
  ·have s1 : ¬ (stat X m t x).1 = 1 := by unfold stat; rw [if_pos h0]; exact hov t x hi
   have es : stat X (pass m) (mv m t) x = stat X m t x := by
    unfold stat
    rw [if_pos h0, if_pos (show (mv m t).over ≠ 0 from h0)]
    rfl
   refine .inr (.inr fun d => ⟨0, Nat.zero_le _, ?_, ?_⟩)
   ·rw [gon s1, gon (by rw [es]; exact s1)]
   ·rw [gon s1]; exact es
  have h0 : t.over = 0 := Decidable.not_not.1 h0
  have hh := hat t x hi h0
  have hb := here_begins hh hB
  obtain ⟨ht, f, r, c, hf, hc⟩ := hh
  by_cases hs : change (unit m t.frame.u).code t.frame.pc = (1, [((unit m t.frame.u).code[t.frame.pc]?).getD i0])
  ·rw [hc] at hs
   obtain ⟨i1, i2, h3⟩ := stay_step ht (hJ _) hb hB hc hs
   have es := stay_stat (X := X) x _ i1 i2
   by_cases s1 : (stat X m t x).1 = 1
   ·cases n with
    | zero => exact .inl s1
    | succ n =>
     have eo := stay_one (X := X) x hb hs i1 i2 (fun rv => (h3 rv).1)
     rw [goy s1]
     rcases ih n (Nat.lt_succ_self n) (one X m t x).1 (one X m t x).2 (hI t x hi s1) (h3 _).2 with e | e | e
     ·exact .inl e
     ·exact .inr (.inl e)
     ·refine .inr (.inr fun d => ?_)
      obtain ⟨k', k1, k2, k3⟩ := e d
      refine ⟨k' + 1, by simp; omega, ?_, k3⟩
      rw [show n + 1 + d = (n + d) + 1 by omega, goy (by rw [es]; exact s1), eo, k2]
   ·refine .inr (.inr fun d => ⟨0, Nat.zero_le _, ?_, ?_⟩)
    ·rw [gon s1, gon (by rw [es]; exact s1)]
    ·rw [gon s1]; exact es
  ·rcases goes2_rule ht h0 hf (hJ _) hb hs with ⟨k, t', hr, hF⟩ | ⟨g, p, n', ws, hw, hb'⟩
   ·by_cases hk : n < k
    ·exact .inl (runs_short hr n x hk)
    ·refine .inr (.inl ?_)
     have := runs_go (X := X) hr (n - k) x
     rw [show n - k + k = n by omega] at this
     rw [this, gon (by unfold stat; rw [if_pos (by rw [hF.1]; decide), hF.1]; decide)]
     exact hF
   ·by_cases hk : n < g
    ·exact .inl (runs_short hw.old n x hk)
    ·have hg := hw.pos
     have hpg := hw.less
     have e0 := runs_go (X := X) hw.old (n - g) x
     rw [show n - g + g = n by omega] at e0
     rw [e0]
     rcases ih (n - g) (by omega) (st t n' ws) x (runs_keep hI hw.old x hi) (bg_st hB ws hb') with e | e | e
     ·exact .inl e
     ·exact .inr (.inl e)
     ·refine .inr (.inr fun d => ?_)
      obtain ⟨k', k1, k2, k3⟩ := e (g - p + d)
      refine ⟨k' + p, by simp; omega, ?_, k3⟩
      have := runs_go (X := X) hw.new (n - g + (g - p + d)) x
      rw [show n - g + (g - p + d) + p = n + d by omega] at this
      rw [this, k2]
end
end Ot
namespace Ot
open Go.RowKit Vf Vm Vw
theorem li_step {m : Md} {K : KM} (hK : Known m K) (fs : List (List Int)) (n : Nat) (t : Tk) (x : List Lst) (hI : LI m K fs n t x) (hst : (stat lsX m t x).1 = 1) : LI m K fs (n + 1) (one lsX m t x).1 (one lsX m t x).2 := by
 have plainB : ∀ n : Nat, n < m.boxes.length → ¬ 10 ≤ boxTy m n := fun n hn => by
  obtain ⟨b, hb⟩ : ∃ b, m.boxes[n]? = some b := ⟨_, List.getElem?_eq_getElem hn⟩
  have := hK.rt.boxes n b hb
  unfold plain at this
  simp at this
  simp only [boxTy, Int.toNat_natCast, hb, Option.map_some, Option.getD_some]
  omega
 have hwt : ∀ (n : Nat) (t : Tk) (x : List Lst), LI m K fs n t x → (t.ins m).op = 27 → ∀ b : Nat, (t.ins m).a = b → b < m.boxes.length → lsX.empty x b = false → ∀ G, WT G (boxTy m (t.ins m).a) (lsX.head x (t.ins m).a.toNat) := fun n t x hI ho b hb hbl he G => by
  obtain ⟨q, hq⟩ : ∃ q, x[b]? = some q := ⟨_, List.getElem?_eq_getElem (by rw [hI.len]; exact hbl)⟩
  rw [hb, Int.toNat_natCast]
  obtain ⟨l1, l2, l3, l4⟩ := hI.lists b q hq
  simp [lsX, hq] at he ⊢
  obtain ⟨v, hv⟩ : ∃ v, q.feed[q.took]? = some v := ⟨_, List.getElem?_eq_getElem (by omega)⟩
  rw [hv]
  refine ⟨fun h2 => ?_, fun h10 => absurd h10 (plainB b hbl)⟩
  exact truth_iff.1 (List.all_eq_true.1 (l4 h2).1 v (List.mem_of_getElem? hv))
 have h0 : t.over = 0 := by
  rcases hI.over with e | e | e
  ·exact e
  ·unfold stat at hst; rw [if_pos (by omega)] at hst; simp at hst; omega
  ·unfold stat at hst; rw [if_pos (by omega)] at hst; simp at hst; omega
 rcases hI.goes with hg | ⟨G, st, hM⟩
 ·exact absurd h0 hg
 ·have hemp : (t.ins m).op = 27 → lsX.empty x (t.ins m).a.toNat = false := fun ho => by
   unfold stat at hst
   rw [if_neg (by omega), if_neg (by omega)] at hst
   split at hst
   ·cases hst
   ·rename_i hn2
    cases he : lsX.empty x (t.ins m).a.toNat
    ·rfl
    ·exact absurd ⟨ho, he⟩ hn2
  have hbx : (t.ins m).op = 26 ∨ (t.ins m).op = 27 → ∃ b : Nat, (t.ins m).a = b ∧ b < m.boxes.length := fun ho => by
   obtain ⟨h, f, r, u, i, k, k', H⟩ := hM.here hK
   rw [H.ins] at ho ⊢
   obtain ⟨hp1, hp2, hrg⟩ := H.pos
   unfold ranged at hrg
   rw [if_neg (by omega), if_neg (by omega), if_neg (by omega), if_neg (by omega), if_neg (by omega), if_pos ho] at hrg
   simp at hrg
   exact ⟨i.a.toNat, by omega, by omega⟩
  have hrv : (t.ins m).op = 27 → WT G (boxTy m (t.ins m).a) (lsX.head x (t.ins m).a.toNat) := fun ho => by
   obtain ⟨b, e, hb⟩ := hbx (.inr ho)
   have he := hemp ho
   rw [e, Int.toNat_natCast] at he
   exact hwt n t x hI ho b e hb he G
  have hout := hI.out
  obtain ⟨_, hgo⟩ := step_goes hK hM _ hrv
  obtain ⟨a1, a2⟩ := act_out m (t.ins m) (t.goto (t.frame.pc + 1)) (lsX.head x (t.ins m).a.toNat)
  have hlg := act_log m (t.ins m) (t.goto (t.frame.pc + 1)) (lsX.head x (t.ins m).a.toNat)
  have hlI := hI.log
  have hlg : (Tk.act m (t.ins m) (t.goto (t.frame.pc + 1)) (lsX.head x (t.ins m).a.toNat)).log.length ≤ t.log.length + 2 := hlg
  refine ⟨hgo, ?_, ?_, by show (Tk.act m (t.ins m) (t.goto (t.frame.pc + 1)) (lsX.head x (t.ins m).a.toNat)).log.length ≤ 2 * (n + 1); omega, ?_, fun j q hq => ?_⟩
  ·have e : (t.goto (t.frame.pc + 1)).over = t.over := rfl
   rw [e, h0] at a2
   exact a2
  ·show (Tk.act m (t.ins m) (t.goto (t.frame.pc + 1)) (lsX.head x (t.ins m).a.toNat)).out.length ≤ n + 1
   rw [a1]
   have e : (t.goto (t.frame.pc + 1)).out = t.out := rfl
   split <;> simp [e] <;> omega
  ·show (stX lsX (t.ins m) _ x).length = _
   unfold stX
   split
   ·rename_i ho
    obtain ⟨b, e, hb⟩ := hbx (.inl ho)
    obtain ⟨q, hq⟩ : ∃ q, x[b]? = some q := ⟨_, List.getElem?_eq_getElem (by rw [hI.len]; exact hb)⟩
    rw [e, Int.toNat_natCast]
    simp [lsX, hq, hI.len]
   ·split
    ·rename_i _ ho
     obtain ⟨b, e, hb⟩ := hbx (.inr ho)
     obtain ⟨q, hq⟩ : ∃ q, x[b]? = some q := ⟨_, List.getElem?_eq_getElem (by rw [hI.len]; exact hb)⟩
     rw [e, Int.toNat_natCast]
     simp [lsX, hq, hI.len]
    ·exact hI.len
  ·have old : ∀ q, x[j]? = some q → fs[j]? = some q.feed ∧ q.took ≤ q.feed.length ∧ q.sent.length ≤ n + 1 ∧ (boxTy m j = 2 → q.feed.all truthB = true ∧ q.sent.all truthB = true) := fun q hq => by
    obtain ⟨l1, l2, l3, l4⟩ := hI.lists j q hq
    exact ⟨l1, l2, by omega, l4⟩
   change (stX lsX (t.ins m) (t.goto (t.frame.pc + 1)).last x)[j]? = some q at hq
   unfold stX at hq
   split at hq
   ·rename_i ho
    obtain ⟨b, e, hb⟩ := hbx (.inl ho)
    obtain ⟨q0, hq0⟩ : ∃ q, x[b]? = some q := ⟨_, List.getElem?_eq_getElem (by rw [hI.len]; exact hb)⟩
    have hs := sent_wt hK hM ho
    rw [e, Int.toNat_natCast] at hq
    simp only [lsX, hq0] at hq
    rw [List.getElem?_set] at hq
    split at hq
    ·rename_i ej
     subst ej
     split at hq
     ·cases hq
      obtain ⟨l1, l2, l3, l4⟩ := hI.lists b q0 hq0
      refine ⟨l1, l2, by simp; omega, fun h2 => ⟨(l4 h2).1, ?_⟩⟩
      rw [e] at hs
      rw [List.all_append, (l4 h2).2]
      simp [truth_iff.2 (hs.1 h2)]
     ·cases hq
    ·exact old q hq
   ·split at hq
    ·rename_i _ ho
     obtain ⟨b, e, hb⟩ := hbx (.inr ho)
     obtain ⟨q0, hq0⟩ : ∃ q, x[b]? = some q := ⟨_, List.getElem?_eq_getElem (by rw [hI.len]; exact hb)⟩
     have he := hemp ho
     rw [e, Int.toNat_natCast] at hq he
     simp only [lsX, hq0] at hq
     simp [lsX, hq0] at he
     rw [List.getElem?_set] at hq
     split at hq
     ·rename_i ej
      subst ej
      split at hq
      ·cases hq
       obtain ⟨l1, l2, l3, l4⟩ := hI.lists b q0 hq0
       exact ⟨l1, by show q0.took + 1 ≤ q0.feed.length; omega, by show q0.sent.length ≤ n + 1; omega, l4⟩
      ·cases hq
     ·exact old q hq
    ·exact old q hq
theorem tasks_pass (m : Md) : tasksTo (pass m).units (pass m).units.length = tasksTo m.units m.units.length := by
 unfold tasksTo
 have e : (pass m).units.length = m.units.length := by simp [pass]
 rw [e]
 congr 1
 funext i
 congr 1
 simp only [pass, List.getElem?_map, eq_iff_iff]
 cases m.units[i]? with
 | none => simp
 | some u => simp [passU]
theorem soloU_pass (m : Md) (task : Int) : soloU (pass m) task = soloU m task := by unfold soloU; rw [tasks_pass]
theorem soloE_pass {m : Md} (hv : verify m = (0, 0, 0)) (task most : Int) (fs : List (List Int)) : soloE (pass m) task most fs = soloE m task most fs := by
 unfold soloE
 rw [pass_right hv, hv, tasks_pass]
 rfl
theorem new_mv (m : Md) (n : Nat) : newTk (unit (pass m) n) n = mv m (newTk (unit m n) n) := by
 unfold newTk
 rw [new_pass _ _ (pass_locals m n)]
 simp [mv, mvH, newTh, mvF, now_zero]
theorem unit_jumps {m : Md} (hv : verify m = (0, 0, 0)) (n : Nat) : Jumps (unit m n).code := by
 cases hu : m.units[n]? with
 | none => simp [unit, hu]; exact fun c hc => by cases hc
 | some u => rw [unit_of hu]; exact (right_jumps hv (List.mem_of_getElem? hu)).1
structure Alk (m n : Md) (task most : Int) (fs : List (List Int)) : Prop where
 less : (soloR n task most fs).1 ≤ (soloR m task most fs).1
 out : (soloR n task most fs).2.1.out = (soloR m task most fs).2.1.out
 over : (soloR n task most fs).2.1.over = (soloR m task most fs).2.1.over
 trap : (soloR n task most fs).2.1.trap = (soloR m task most fs).2.1.trap
 boxes : (soloR n task most fs).2.2 = (soloR m task most fs).2.2
 stat : stat lsX n (soloR n task most fs).2.1 (soloR n task most fs).2.2 = stat lsX m (soloR m task most fs).2.1 (soloR m task most fs).2.2
def Sames (m n : Md) (task most : Int) (fs : List (List Int)) : Prop := (Vw.stat lsX m (soloR m task most fs).2.1 (soloR m task most fs).2.2).1 = 1 ∨ Full (soloR m task most fs).2.1 ∨ Alk m n task most fs
theorem solo_pass {m : Md} {task most : Int} {fs : List (List Int)} (hE : soloE m task most fs = 0) : Sames m (pass m) task most fs := by
 obtain ⟨hv, t0, t1, m0, m1, hl, hw⟩ := soloE_zero hE
 obtain ⟨⟨K, hK⟩, _⟩ := known_of hv
 obtain ⟨n, hn⟩ : ∃ n, (tasksTo m.units m.units.length)[task.toNat]? = some n := ⟨_, List.getElem?_eq_getElem (by omega)⟩
 have hU : soloU m task = n := by unfold soloU; rw [hn]; rfl
 have hmem : n ∈ tasksTo m.units m.units.length := List.mem_of_getElem? hn
 unfold tasksTo at hmem
 simp only [List.mem_filter, List.mem_range, decide_eq_true_eq] at hmem
 obtain ⟨_, u, hu, h4⟩ := hmem
 have h1 := solo_first hK hl hw hu h4
 have hB : BgT m (newTk u n) := fun i h hh => by
  cases i with
  | zero =>
   simp [newTk] at hh
   subst hh
   intro f hf
   simp [newTh] at hf
   subst hf
   exact bg_zero m _ _
  | succ i => simp [newTk] at hh
 have := go_pass (X := lsX) (m := m) (I := fun t x => ∃ n, LI m K fs n t x) (fun t x ⟨k, hk⟩ hs => ⟨k + 1, li_step hK fs k t x hk hs⟩)
  (fun t x ⟨k, hk⟩ h0 => by
   rcases hk.goes with hg | ⟨G, st, hM⟩
   ·exact absurd h0 hg
   ·obtain ⟨h, f, r, u, i, k, k', H⟩ := hM.here hK
    have ef : t.frame = f := by simp [Tk.frame, top_of H.hh, H.fs]
    refine ⟨(List.getElem?_eq_some_iff.1 H.hh).1, f, r, i, by rw [top_of H.hh]; exact H.fs, ?_⟩
    rw [ef, unit_of H.un]
    exact H.code)
  (fun t x ⟨k, hk⟩ => by have := hk.over; omega) (unit_jumps hv) most.toNat (newTk u n) (soloX fs) ⟨0, h1⟩ hB
 have eR : soloR m task most fs = go lsX m most.toNat (newTk u n) (soloX fs) := by unfold soloR; rw [hU, unit_of hu]
 have eP : soloR (pass m) task most fs = go lsX (pass m) most.toNat (mv m (newTk u n)) (soloX fs) := by
  unfold soloR
  rw [soloU_pass, hU, new_mv, unit_of hu]
 unfold Sames
 rw [eR]
 rcases this with e | e | e
 ·exact .inl e
 ·exact .inr (.inl e)
 ·obtain ⟨k', k1, k2, k3⟩ := e 0
  rw [Nat.add_zero, ← eP] at k2
  rw [← eR] at k1 k2 k3
  exact .inr (.inr ⟨by rw [k2]; exact k1, by rw [k2]; rfl, by rw [k2]; rfl, by rw [k2]; rfl, by rw [k2], by rw [k2]; exact k3⟩)
theorem solo_passes {m : Md} {task most : Int} {fs : List (List Int)} (hE : soloE m task most fs = 0) : ∀ n : Nat, soloE (passes n m) task most fs = 0 ∧ Sames m (passes n m) task most fs
 | 0 => ⟨hE, .inr (.inr ⟨Nat.le_refl _, rfl, rfl, rfl, rfl, rfl⟩)⟩
 | n + 1 => by
  obtain ⟨i1, i2⟩ := solo_passes hE n
  have e : passes (n + 1) m = pass (passes n m) := rfl
  obtain ⟨hv, _⟩ := soloE_zero hE
  rw [e]
  refine ⟨by rw [soloE_pass (passes_right hv n)]; exact i1, ?_⟩
  rcases i2 with h | h | h
  ·exact .inl h
  ·exact .inr (.inl h)
  ·rcases solo_pass i1 with k | k | k
   ·exact .inl (by rw [← h.stat]; exact k)
   ·exact .inr (.inl ⟨by rw [← h.over]; exact k.1, by rw [← h.trap]; exact k.2⟩)
   ·exact .inr (.inr ⟨Nat.le_trans k.less h.less, k.out.trans h.out, k.over.trans h.over, k.trap.trans h.trap, k.boxes.trans h.boxes, k.stat.trans h.stat⟩)
theorem solo_short {m : Md} {task most : Int} {fs : List (List Int)} (hE : soloE m task most fs = 0) : Sames m (shortM m) task most fs := by
 rw [short_passes (soloE_zero hE).1 (Nat.le_refl 4000)]
 exact (solo_passes hE 4000).2
theorem soloE_short {m : Md} (hv : verify m = (0, 0, 0)) (task most : Int) (fs : List (List Int)) : soloE (shortM m) task most fs = soloE m task most fs := by
 rw [short_passes hv (Nat.le_refl 4000)]
 have key : ∀ n : Nat, soloE (passes n m) task most fs = soloE m task most fs := fun n => by
  induction n with
  | zero => rfl
  | succ n ih => exact (soloE_pass (passes_right hv n) task most fs).trans ih
 exact key 4000
end Ot
end Go.Proofs.YtlbihbfgglnfnaaGreat
