/- What a step does with what was put out; what is known of a right module's units for good. -/
import Derived.Test.YtekjhefmhhcboaaGreatM16
import Derived.Test.YtekjhefmhhcboaaGreatM43
namespace Go.Proofs.YtekjhefmhhcboaaGreat
namespace Vm
open Vf

theorem put_out (t : Tk) (v : Int) : (t.put v).out = t.out ∧ ((t.put v).over = t.over ∨ (t.put v).over = 5) := by
  unfold Tk.put
  split
  · exact ⟨rfl, .inr rfl⟩
  · exact ⟨rfl, .inl rfl⟩
theorem call_out (m : Md) (t : Tk) (n : Nat) : (t.call m n).out = t.out ∧ ((t.call m n).over = t.over ∨ (t.call m n).over = 5) := by
  unfold Tk.call
  split
  · exact ⟨rfl, .inr rfl⟩
  · split
    · exact ⟨rfl, .inl rfl⟩
    · exact ⟨rfl, .inr rfl⟩
theorem start_out (m : Md) (t : Tk) (n : Nat) : (t.start m n).out = t.out ∧ ((t.start m n).over = t.over ∨ (t.start m n).over = 5) := by
  unfold Tk.start
  split
  · exact ⟨rfl, .inr rfl⟩
  · exact ⟨(put_out _ _).1, (put_out _ _).2⟩
theorem give_out (t : Tk) (s : Nat) (v : Int) : (t.give s v).out = t.out ∧ ((t.give s v).over = t.over ∨ (t.give s v).over = 5) := by
  unfold Tk.give
  exact ⟨(put_out _ _).1, (put_out _ _).2⟩
theorem fin_out (t : Tk) : t.fin.out = t.out ∧ (t.fin.over = t.over ∨ t.fin.over = 4 ∨ t.fin.over = 5) := by
  unfold Tk.fin
  split
  · exact ⟨rfl, .inr (.inl rfl)⟩
  · exact ⟨(give_out _ _ _).1, (give_out _ _ _).2.imp id .inr⟩
theorem resume_out (t : Tk) : t.resume.out = t.out ∧ (t.resume.over = t.over ∨ t.resume.over = 5) := by
  unfold Tk.resume
  dsimp only
  split
  · exact ⟨rfl, .inr rfl⟩
  · split
    · exact ⟨rfl, .inr rfl⟩
    · split
      · exact ⟨(put_out _ _).1, (put_out _ _).2⟩
      · exact ⟨rfl, .inl rfl⟩
theorem reckon_out (t : Tk) (op : Int) : (t.reckon op).out = t.out ∧ ((t.reckon op).over = t.over ∨ (t.reckon op).over = 5) := by
  unfold Tk.reckon
  split
  · exact ⟨rfl, .inr rfl⟩
  · exact ⟨(put_out _ _).1, (put_out _ _).2⟩

/-- What an instruction puts out; it is done, or trapped, or as it was. -/
theorem act_out (m : Md) (c : Ins) (t : Tk) (rv : Int) : (t.act m c rv).out = (if c.op = 28 then t.out ++ [t.last] else t.out) ∧ ((t.act m c rv).over = t.over ∨ (t.act m c rv).over = 4 ∨ (t.act m c rv).over = 5) := by
  have p : ∀ {a b : Tk}, b.out = a.out ∧ (b.over = a.over ∨ b.over = 5) → a.out = t.out → a.over = t.over → c.op ≠ 28 → b.out = (if c.op = 28 then t.out ++ [t.last] else t.out) ∧ (b.over = t.over ∨ b.over = 4 ∨ b.over = 5) := fun h e1 e2 e3 => by
    rw [if_neg e3, ← e1, ← e2]
    exact ⟨h.1, h.2.imp id .inr⟩
  unfold Tk.act
  by_cases h1 : c.op = 1
  · rw [if_pos h1]; exact p (put_out _ _) rfl rfl (by omega)
  rw [if_neg h1]
  by_cases h2 : c.op = 2
  · rw [if_pos h2]; exact p (put_out _ _) rfl rfl (by omega)
  rw [if_neg h2]
  by_cases h3 : c.op = 3
  · rw [if_pos h3]; exact p (put_out _ _) rfl rfl (by omega)
  rw [if_neg h3]
  by_cases h4 : c.op = 4
  · rw [if_pos h4]; exact p (a := t) ⟨rfl, .inl rfl⟩ rfl rfl (by omega)
  rw [if_neg h4]
  by_cases h5 : c.op = 5
  · rw [if_pos h5]; exact p (a := t) ⟨rfl, .inl rfl⟩ rfl rfl (by omega)
  rw [if_neg h5]
  by_cases h6 : c.op = 6
  · rw [if_pos h6]; exact p (put_out _ _) rfl rfl (by omega)
  rw [if_neg h6]
  by_cases h7 : c.op = 7
  · rw [if_pos h7]; exact p (put_out _ _) rfl rfl (by omega)
  rw [if_neg h7]
  by_cases h21 : c.op = 21
  · rw [if_pos h21]; exact p (a := t) ⟨rfl, .inl rfl⟩ rfl rfl (by omega)
  rw [if_neg h21]
  by_cases h22 : c.op = 22
  · rw [if_pos h22]
    split
    · exact p (a := t) ⟨rfl, .inl rfl⟩ rfl rfl (by omega)
    · exact p (a := t) ⟨rfl, .inl rfl⟩ rfl rfl (by omega)
  rw [if_neg h22]
  by_cases h26 : c.op = 26
  · rw [if_pos h26]; exact p (a := t) ⟨rfl, .inl rfl⟩ rfl rfl (by omega)
  rw [if_neg h26]
  by_cases h27 : c.op = 27
  · rw [if_pos h27]; exact p (put_out _ _) rfl rfl (by omega)
  rw [if_neg h27]
  by_cases h28 : c.op = 28
  · rw [if_pos h28, if_pos h28]; exact ⟨rfl, .inl rfl⟩
  rw [if_neg h28]
  by_cases h23 : c.op = 23
  · rw [if_pos h23]; exact p (call_out _ _ _) rfl rfl (by omega)
  rw [if_neg h23]
  by_cases h24 : c.op = 24
  · rw [if_pos h24]; exact p (put_out _ _) rfl rfl (by omega)
  rw [if_neg h24]
  by_cases h29 : c.op = 29
  · rw [if_pos h29]; exact p (start_out _ _ _) rfl rfl (by omega)
  rw [if_neg h29]
  by_cases h30 : c.op = 30
  · rw [if_pos h30]; exact p (resume_out _) rfl rfl (by omega)
  rw [if_neg h30]
  by_cases h31 : c.op = 31
  · rw [if_pos h31]; exact p (give_out _ _ _) rfl rfl (by omega)
  rw [if_neg h31]
  by_cases h25 : c.op = 25
  · rw [if_pos h25, if_neg (by omega)]; exact fin_out t
  rw [if_neg h25]
  by_cases h32 : c.op = 32
  · rw [if_pos h32]; exact p (put_out _ _) rfl rfl (by omega)
  rw [if_neg h32]
  exact p (reckon_out _ _) rfl rfl (by omega)

/-- Of a right module something is known for good. -/
theorem known_of {m : Md} (h : verify m = (0, 0, 0)) : (∃ K, Known m K) ∧ m.boxes.length ≤ 30 := by
  have hl := right_iff.1 h
  obtain ⟨hR, hb⟩ := rt_of (hl 0 (by omega)) (hl 1 (by omega)) (hl 2 (by omega))
  refine ⟨?_, hb⟩
  have key : ∀ n : Nat, ∃ K : Nat → Option Kn, ∀ u, m.units[n]? = some u → Fix m u K := fun n => by
    cases hu : m.units[n]? with
    | none => exact ⟨fun _ => none, fun u e => by cases e⟩
    | some u =>
      obtain ⟨hh, hf⟩ := hR.heads n u hu
      have hz := sized_true (headE_zero hh).2.1
      obtain ⟨K, hK⟩ := fix_of hf (by omega) (each_all _ _ _ (show (eachW (flowF m) m.units 0).1 = 0 from hl 4 (by omega)) u (List.mem_of_getElem? hu))
      exact ⟨K, fun u' e => by cases e; exact hK⟩
  exact ⟨fun n => (key n).choose, hR, fun n u hu => (key n).choose_spec u hu⟩

/-- What is sent is of its box's type. -/
theorem sent_wt {m : Md} {K : KM} {G : List Nat} {t : Tk} {st : List Int} (hK : Known m K) (hM : Mid m K G t st st) (ho : (t.ins m).op = 26) : WT G (boxTy m (t.ins m).a) (t.goto (t.frame.pc + 1)).last := by
  obtain ⟨h, f, r, u, c, k, k', H⟩ := hM.here hK
  rw [H.ins] at ho ⊢
  rw [H.frame]
  have hN := H.next hM (by omega) (by omega) (by omega) (by omega)
  have hr := H.reck
  unfold reckS speak at hr
  simp only [ho] at hr
  simp at hr
  have e := takeR_inv hr
  rw [H.kst] at e
  rw [e] at hN
  exact hN.cut.2
end Vm
end Go.Proofs.YtekjhefmhhcboaaGreat
namespace Go.Proofs.YtekjhefmhhcboaaGreat.Vw
def truthB (v : Int) : Bool := v == 0 || v == 1
theorem truth_iff {v : Int} : truthB v = true ↔ v = 0 ∨ v = 1 := by simp [truthB]
end Go.Proofs.YtekjhefmhhcboaaGreat.Vw

/- What an instruction does, as it is heard. -/
namespace Go.Proofs.YtekjhefmhhcboaaGreat
namespace Vm
open Vf

/-- What was done, and then perhaps a trap. -/
def Did (t t' : Tk) (g : List Ev) : Prop := t'.out = t.out ∧ ((t'.log = t.log ++ g ∧ t'.over = t.over ∧ t'.trap = t.trap) ∨ ∃ n : Nat, t'.log = t.log ++ g ++ [⟨5, 0, n⟩] ∧ t'.over = 5 ∧ t'.trap = n)
theorem Did.quiet {t t' : Tk} (h1 : t'.out = t.out) (h2 : t'.log = t.log) (h3 : t'.over = t.over) (h4 : t'.trap = t.trap) : Did t t' [] := ⟨h1, .inl ⟨by rw [h2, List.append_nil], h3, h4⟩⟩
theorem fall_did (t : Tk) (n : Nat) : Did t (t.fall n) [] := ⟨rfl, .inr ⟨n, by simp [Tk.fall], rfl, rfl⟩⟩
theorem put_did (t : Tk) (v : Int) : Did t (t.put v) [] := by
  unfold Tk.put
  split
  · exact fall_did t 4
  · exact .quiet rfl rfl rfl rfl
theorem Did.of {t s s' : Tk} {g : List Ev} (h : Did s s' g) (h1 : s.out = t.out) (h2 : s.log = t.log) (h3 : s.over = t.over) (h4 : s.trap = t.trap) : Did t s' g := by
  unfold Did at h ⊢
  rw [h1, h2, h3, h4] at h
  exact h
theorem call_did (m : Md) (t : Tk) (n : Nat) : Did t (t.call m n) [] := by
  unfold Tk.call
  split
  · exact fall_did t 4
  · split
    · exact .quiet rfl rfl rfl rfl
    · exact (fall_did _ 4).of rfl rfl rfl rfl
theorem start_did (m : Md) (t : Tk) (n : Nat) : ∃ g, (g = [] ∨ g = [⟨6, 0, n⟩]) ∧ Did t (t.start m n) g := by
  unfold Tk.start
  dsimp only
  split
  · exact ⟨[], .inl rfl, (fall_did _ 5).of rfl rfl rfl rfl⟩
  · refine ⟨_, .inr rfl, ?_⟩
    obtain ⟨h1, h2⟩ := put_did (({ (t.less (unit m n).params.toNat) with ths := (t.less (unit m n).params.toNat).ths ++ [newTh (unit m n) n (t.top.ws.drop (t.top.ws.length - (unit m n).params.toNat))] } : Tk).note ⟨6, 0, n⟩) t.ths.length
    refine ⟨h1, ?_⟩
    rw [List.append_nil] at h2
    exact h2
theorem give_did (t : Tk) (s : Nat) (v : Int) : Did t (t.give s v) [] := by
  unfold Tk.give
  exact (put_did _ _).of rfl rfl rfl rfl
theorem fin_did (t : Tk) : Did t t.fin [] ∨ (t.fin.out = t.out ∧ t.fin.log = t.log ++ [⟨4, 0, 0⟩] ∧ t.fin.over = 4 ∧ t.fin.trap = t.trap) := by
  unfold Tk.fin
  split
  · exact .inr ⟨rfl, rfl, rfl, rfl⟩
  · exact .inl (give_did _ _ _)
theorem resume_did (t : Tk) : Did t t.resume [] := by
  unfold Tk.resume
  dsimp only
  split
  · exact (fall_did _ 2).of rfl rfl rfl rfl
  · split
    · exact (fall_did _ 3).of rfl rfl rfl rfl
    · split
      · exact (put_did _ _).of rfl rfl rfl rfl
      · exact .quiet rfl rfl rfl rfl
theorem reckon_did (t : Tk) (op : Int) : Did t (t.reckon op) [] := by
  unfold Tk.reckon
  split
  · exact (fall_did _ 1).of rfl rfl rfl rfl
  · exact (put_did _ _).of rfl rfl rfl rfl
/-- What an instruction does. -/
def Acts (c : Ins) (t t' : Tk) (v rv : Int) : Prop :=
  (c.op = 26 ∧ Did t t' [⟨2, c.a, v⟩]) ∨ (c.op = 27 ∧ Did t t' [⟨3, c.a, rv⟩]) ∨ (c.op = 28 ∧ t'.out = t.out ++ [v] ∧ t'.log = t.log ++ [⟨1, 0, v⟩] ∧ t'.over = t.over ∧ t'.trap = t.trap) ∨
  ((c.op ≠ 26 ∧ c.op ≠ 27 ∧ c.op ≠ 28) ∧ ((∃ g, (g = [] ∨ ∃ n : Nat, g = [⟨6, 0, n⟩]) ∧ Did t t' g) ∨ (t'.out = t.out ∧ t'.log = t.log ++ [⟨4, 0, 0⟩] ∧ t'.over = 4 ∧ t'.trap = t.trap)))
theorem act_did (m : Md) (c : Ins) (t : Tk) (rv : Int) : Acts c t (t.act m c rv) t.last rv := by
  have q : ∀ {t' : Tk}, Did t t' [] → c.op ≠ 26 ∧ c.op ≠ 27 ∧ c.op ≠ 28 → Acts c t t' t.last rv := fun h k => .inr (.inr (.inr ⟨k, .inl ⟨[], .inl rfl, h⟩⟩))
  unfold Tk.act
  by_cases h1 : c.op = 1
  · rw [if_pos h1]; exact q (put_did _ _) (by omega)
  rw [if_neg h1]
  by_cases h2 : c.op = 2
  · rw [if_pos h2]; exact q (put_did _ _) (by omega)
  rw [if_neg h2]
  by_cases h3 : c.op = 3
  · rw [if_pos h3]; exact q (put_did _ _) (by omega)
  rw [if_neg h3]
  by_cases h4 : c.op = 4
  · rw [if_pos h4]; exact q (.quiet rfl rfl rfl rfl) (by omega)
  rw [if_neg h4]
  by_cases h5 : c.op = 5
  · rw [if_pos h5]; exact q (.quiet rfl rfl rfl rfl) (by omega)
  rw [if_neg h5]
  by_cases h6 : c.op = 6
  · rw [if_pos h6]; exact q ((put_did _ _).of rfl rfl rfl rfl) (by omega)
  rw [if_neg h6]
  by_cases h7 : c.op = 7
  · rw [if_pos h7]; exact q ((put_did _ _).of rfl rfl rfl rfl) (by omega)
  rw [if_neg h7]
  by_cases h21 : c.op = 21
  · rw [if_pos h21]; exact q (.quiet rfl rfl rfl rfl) (by omega)
  rw [if_neg h21]
  by_cases h22 : c.op = 22
  · rw [if_pos h22]
    split
    · exact q (.quiet rfl rfl rfl rfl) (by omega)
    · exact q (.quiet rfl rfl rfl rfl) (by omega)
  rw [if_neg h22]
  by_cases h26 : c.op = 26
  · rw [if_pos h26]; exact .inl ⟨h26, rfl, .inl ⟨rfl, rfl, rfl⟩⟩
  rw [if_neg h26]
  by_cases h27 : c.op = 27
  · rw [if_pos h27]
    obtain ⟨k1, k2⟩ := put_did (t.note ⟨3, c.a, rv⟩) rv
    refine .inr (.inl ⟨h27, k1, ?_⟩)
    rw [List.append_nil] at k2
    exact k2
  rw [if_neg h27]
  by_cases h28 : c.op = 28
  · rw [if_pos h28]; exact .inr (.inr (.inl ⟨h28, rfl, rfl, rfl, rfl⟩))
  rw [if_neg h28]
  by_cases h23 : c.op = 23
  · rw [if_pos h23]; exact q (call_did _ _ _) (by omega)
  rw [if_neg h23]
  by_cases h24 : c.op = 24
  · rw [if_pos h24]; exact q ((put_did _ _).of rfl rfl rfl rfl) (by omega)
  rw [if_neg h24]
  by_cases h29 : c.op = 29
  · rw [if_pos h29]
    obtain ⟨g, hg, hd⟩ := start_did m t c.a.toNat
    exact .inr (.inr (.inr ⟨by omega, .inl ⟨g, hg.imp id (fun e => ⟨_, e⟩), hd⟩⟩))
  rw [if_neg h29]
  by_cases h30 : c.op = 30
  · rw [if_pos h30]; exact q (resume_did _) (by omega)
  rw [if_neg h30]
  by_cases h31 : c.op = 31
  · rw [if_pos h31]; exact q ((give_did _ _ _).of rfl rfl rfl rfl) (by omega)
  rw [if_neg h31]
  by_cases h25 : c.op = 25
  · rw [if_pos h25]
    rcases fin_did t with h | h
    · exact q h (by omega)
    · exact .inr (.inr (.inr ⟨by omega, .inr h⟩))
  rw [if_neg h25]
  by_cases h32 : c.op = 32
  · rw [if_pos h32]; exact q ((put_did _ _).of rfl rfl rfl rfl) (by omega)
  rw [if_neg h32]
  exact q (reckon_did _ _) ⟨h26, h27, h28⟩
theorem Did.few {t t' : Tk} {g : List Ev} (h : Did t t' g) : t'.log.length ≤ t.log.length + g.length + 1 := by
  rcases h.2 with ⟨e, _⟩ | ⟨n, e, _⟩
  · rw [e, List.length_append]; omega
  · rw [e, List.length_append, List.length_append]; simp
/-- At most two things are heard of an instruction. -/
theorem Acts.few {c : Ins} {t t' : Tk} {v rv : Int} (h : Acts c t t' v rv) : t'.log.length ≤ t.log.length + 2 := by
  rcases h with ⟨_, h⟩ | ⟨_, h⟩ | ⟨_, h1, h2, _⟩ | ⟨_, ⟨g, hg, h⟩ | ⟨h1, h2, _⟩⟩
  · have := h.few; simpa using this
  · have := h.few; simpa using this
  · rw [h2]; simp
  · have := h.few
    rcases hg with rfl | ⟨n, rfl⟩ <;> simp at this <;> omega
  · rw [h2]; simp
theorem act_log (m : Md) (c : Ins) (t : Tk) (rv : Int) : (t.act m c rv).log.length ≤ t.log.length + 2 := (act_did m c t rv).few
end Vm
end Go.Proofs.YtekjhefmhhcboaaGreat

