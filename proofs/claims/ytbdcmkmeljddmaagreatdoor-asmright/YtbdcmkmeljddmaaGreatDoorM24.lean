/- What flows keep to, plainly: stacks that are not too great, of types that are there; faults that are some. -/
import Derived.Test.YtbdcmkmeljddmaaGreatDoorM19
import Derived.Test.YtbdcmkmeljddmaaGreatDoorM23
namespace Go.Proofs.YtbdcmkmeljddmaaGreatDoor

/-- What is wrong is something. -/
def NZ {α : Type} (r : Except Int α) : Prop := ∀ e, r = .error e → e ≠ 0
theorem NZ.ok {α : Type} (x : α) : NZ (.ok x) := fun e h => by cases h
theorem NZ.err {α : Type} {e : Int} (h : e ≠ 0) : NZ (.error e : Except Int α) := fun e' h' => by cases h'; exact h
theorem NZ.andThen {α β : Type} {r : Except Int α} {f : α → Except Int β} (h : NZ r) (hf : ∀ x, r = .ok x → NZ (f x)) : NZ (Vf.andThen r f) := by
  cases r with
  | error e => exact .err (h e rfl)
  | ok x => exact hf x rfl
theorem ite_ind {α : Type} {P : α → Prop} {c : Prop} [Decidable c] {a b : α} (h1 : c → P a) (h2 : ¬ c → P b) : P (if c then a else b) := by
  by_cases h : c
  · rw [if_pos h]; exact h1 h
  · rw [if_neg h]; exact h2 h
theorem put_nz (t : Int) (st : List Int) : NZ (Vf.put t st) := by
  unfold Vf.put
  split
  · exact .ok _
  · exact .err (by decide)
theorem takeR_nz : ∀ (ts st : List Int), NZ (Vf.takeR ts st)
  | [], st => .ok _
  | _ :: _, [] => .err (by decide)
  | t :: ts, x :: r => by
    unfold Vf.takeR
    split
    · exact takeR_nz ts r
    · exact .err (by decide)
theorem turn_nz (t : Int) (l st : List Int) : NZ (Vf.turn t l st) := (takeR_nz _ _).andThen fun _ _ => put_nz _ _
theorem pop_nz (st : List Int) : NZ (Vf.pop st) := by
  cases st with
  | nil => exact .err (by decide)
  | cons t r => exact .ok _
theorem must_nz {b : Bool} {e : Int} (he : e ≠ 0) (st : List Int) : NZ (Vf.must b e st) := by
  unfold Vf.must
  split
  · exact .ok _
  · exact .err he
theorem popPlain_nz (st : List Int) : NZ (Vf.popPlain st) := (pop_nz st).andThen fun p _ => by
  split
  · exact .ok _
  · exact .err (by decide)
theorem popGen_nz (st : List Int) : NZ (Vf.popGen st) := (pop_nz st).andThen fun p _ => by
  split
  · exact .ok _
  · exact .err (by decide)
theorem resume_nz (m : Vf.Md) (st : List Int) : NZ (Vf.resume m st) := (pop_nz st).andThen fun _ _ => (popGen_nz _).andThen fun _ _ => (must_nz (by decide) _).andThen fun _ _ => put_nz _ _
theorem speak_nz (m : Vf.Md) (u : Vf.Un) (c : Vf.Ins) (st : List Int) : NZ (Vf.speak m u c st) := by
  unfold Vf.speak
  refine ite_ind (P := NZ) (fun h1 => ?_) (fun g1 => ?_)
  · exact turn_nz _ _ _
  refine ite_ind (P := NZ) (fun h1 => ?_) (fun g2 => ?_)
  · exact turn_nz _ _ _
  refine ite_ind (P := NZ) (fun h1 => ?_) (fun g3 => ?_)
  · exact takeR_nz _ _
  refine ite_ind (P := NZ) (fun h1 => ?_) (fun g4 => ?_)
  · exact put_nz _ _
  refine ite_ind (P := NZ) (fun h1 => ?_) (fun g5 => ?_)
  · exact resume_nz _ _
  refine ite_ind (P := NZ) (fun h1 => ?_) (fun g6 => ?_)
  · exact (popGen_nz _).andThen fun _ _ => put_nz _ _
  refine ite_ind (P := NZ) (fun h1 => ?_) (fun g7 => ?_)
  · exact (must_nz (by decide) _).andThen fun _ _ => turn_nz _ _ _
  refine ite_ind (P := NZ) (fun h1 => ?_) (fun g8 => ?_)
  · exact (must_nz (by decide) _).andThen fun _ _ => (takeR_nz _ _).andThen fun _ _ => must_nz (by decide) _
  refine ite_ind (P := NZ) (fun h1 => ?_) (fun g9 => ?_)
  · exact (must_nz (by decide) _).andThen fun _ _ => must_nz (by decide) _
  · exact .ok _
theorem reckS_nz (m : Vf.Md) (u : Vf.Un) (c : Vf.Ins) (k : Vf.Kn) : NZ (Vf.reckS m u c k) := by
  unfold Vf.reckS
  refine ite_ind (P := NZ) (fun h1 => ?_) (fun g1 => ?_)
  · exact put_nz _ _
  refine ite_ind (P := NZ) (fun h1 => ?_) (fun g2 => ?_)
  · exact put_nz _ _
  refine ite_ind (P := NZ) (fun h1 => ?_) (fun g3 => ?_)
  · exact (must_nz (by decide) _).andThen fun _ _ => put_nz _ _
  refine ite_ind (P := NZ) (fun h1 => ?_) (fun g4 => ?_)
  · exact takeR_nz _ _
  refine ite_ind (P := NZ) (fun h1 => ?_) (fun g5 => ?_)
  · exact (pop_nz _).andThen fun _ _ => .ok _
  refine ite_ind (P := NZ) (fun h1 => ?_) (fun g6 => ?_)
  · exact turn_nz _ _ _
  refine ite_ind (P := NZ) (fun h1 => ?_) (fun g7 => ?_)
  · exact turn_nz _ _ _
  refine ite_ind (P := NZ) (fun h1 => ?_) (fun g8 => ?_)
  · exact turn_nz _ _ _
  refine ite_ind (P := NZ) (fun h1 => ?_) (fun g9 => ?_)
  · exact turn_nz _ _ _
  refine ite_ind (P := NZ) (fun h1 => ?_) (fun g10 => ?_)
  · exact turn_nz _ _ _
  refine ite_ind (P := NZ) (fun h1 => ?_) (fun g11 => ?_)
  · exact (popPlain_nz _).andThen fun _ _ => turn_nz _ _ _
  refine ite_ind (P := NZ) (fun h1 => ?_) (fun g12 => ?_)
  · exact (popPlain_nz _).andThen fun _ _ => .ok _
  refine ite_ind (P := NZ) (fun h1 => ?_) (fun g13 => ?_)
  · exact takeR_nz _ _
  · exact speak_nz _ _ _ _
theorem goOn_nz (len : Nat) (k : Vf.Kn) (t : Int) (s : Vf.S) : NZ (Vf.goOn len k t s) := by
  unfold Vf.goOn
  split
  · split
    · exact .ok _
    · split
      · split
        · exact .ok _
        · exact .ok _
      · exact .err (by decide)
  · exact .err (by decide)
theorem goAll_nz (len : Nat) (k : Vf.Kn) : ∀ (l : List Int) (s : Vf.S), NZ (Vf.goAll len k l s)
  | [], _ => .ok _
  | _ :: l, _ => (goOn_nz _ _ _ _).andThen fun s' _ => goAll_nz len k l s'
theorem look_nz (m : Vf.Md) (u : Vf.Un) (n : Nat) (s : Vf.S) : NZ (Vf.look m u n s) := by
  unfold Vf.look
  split
  · exact ((reckS_nz _ _ _ _).andThen fun _ _ => .ok _).andThen fun _ _ => goAll_nz _ _ _ _
  · exact .ok _

/-- Types that are there. -/
def OkT (m : Vf.Md) (t : Int) : Prop := Vf.plain t = true ∨ (10 ≤ t ∧ Vf.is m 3 (t - 10) = true)
/-- A stack that is not too great, of types that are there. -/
def OkS (m : Vf.Md) (st : List Int) : Prop := Gens m st ∧ st.length ≤ 300
/-- What comes of it is one, if it was. -/
def Ok {α : Type} (p : α → Prop) (r : Except Int α) : Prop := ∀ x, r = .ok x → p x
theorem Ok.andThen {α β : Type} {p : α → Prop} {q : β → Prop} {r : Except Int α} {f : α → Except Int β} (h : Ok p r) (hf : ∀ x, p x → Ok q (f x)) : Ok q (Vf.andThen r f) := by
  cases r with
  | error e => intro x hx; cases hx
  | ok x => exact hf x (h x rfl)
theorem put_ok {m : Vf.Md} {t : Int} {st : List Int} (ht : OkT m t) (h : OkS m st) : Ok (OkS m) (Vf.put t st) := by
  intro x hx
  unfold Vf.put at hx
  split at hx
  · cases hx
    refine ⟨fun y hy => ?_, by simp; omega⟩
    rcases List.mem_cons.1 hy with rfl | hy
    · exact ht
    · exact h.1 y hy
  · cases hx
theorem OkS.tail {m : Vf.Md} {t : Int} {st : List Int} (h : OkS m (t :: st)) : OkS m st := ⟨fun x hx => h.1 x (List.mem_cons_of_mem _ hx), by have := h.2; simp at this; omega⟩
theorem takeR_ok {m : Vf.Md} : ∀ (ts st : List Int), OkS m st → Ok (OkS m) (Vf.takeR ts st)
  | [], st, h => fun x hx => by cases hx; exact h
  | _ :: _, [], _ => fun x hx => by cases hx
  | t :: ts, y :: r, h => fun x hx => by
    unfold Vf.takeR at hx
    split at hx
    · exact takeR_ok ts r h.tail x hx
    · cases hx
theorem turn_ok {m : Vf.Md} {t : Int} {l st : List Int} (ht : OkT m t) (h : OkS m st) : Ok (OkS m) (Vf.turn t l st) := (takeR_ok _ _ h).andThen fun _ h => put_ok ht h
theorem pop_ok {m : Vf.Md} {st : List Int} (h : OkS m st) : Ok (fun p => OkT m p.1 ∧ OkS m p.2) (Vf.pop st) := fun x hx => by
  cases st with
  | nil => cases hx
  | cons t r => cases hx; exact ⟨h.1 t List.mem_cons_self, h.tail⟩
theorem popPlain_ok {m : Vf.Md} {st : List Int} (h : OkS m st) : Ok (fun p => OkT m p.1 ∧ OkS m p.2) (Vf.popPlain st) := (pop_ok h).andThen fun p hp x hx => by
  split at hx
  · cases hx; exact hp
  · cases hx
theorem popGen_ok {m : Vf.Md} {st : List Int} (h : OkS m st) : Ok (fun p => (10 ≤ p.1 ∧ OkT m p.1) ∧ OkS m p.2) (Vf.popGen st) := (pop_ok h).andThen fun p hp x hx => by
  split at hx
  · cases hx; exact ⟨⟨by assumption, hp.1⟩, hp.2⟩
  · cases hx
theorem must_ok {m : Vf.Md} {b : Bool} {e : Int} {st : List Int} (h : OkS m st) : Ok (OkS m) (Vf.must b e st) := fun x hx => by
  unfold Vf.must at hx
  split at hx
  · cases hx; exact h
  · cases hx

theorem typed_of {m : Vf.Md} {u : Vf.Un} (h : Vf.headE m u = 0) : (u.kind = 4 ∨ Vf.plain u.result = true) ∧ (u.kind ≠ 3 ∨ Vf.plain u.takes = true) ∧ ∀ t ∈ u.locals, OkT m t := by
  obtain ⟨_, _, h3⟩ := headE_zero h
  unfold Vf.typed Vf.heads at h3
  simp only [Bool.and_eq_true, Bool.or_eq_true, beq_iff_eq, bne_iff_ne, List.all_eq_true] at h3
  obtain ⟨⟨h4, h5⟩, h6⟩ := h3
  refine ⟨h4, h5, fun t ht => ?_⟩
  rcases h6 t ht with h7 | h7
  · exact .inl h7
  · obtain ⟨_, _, _, h8⟩ := is_some h7
    exact .inr ⟨by omega, h7⟩
theorem num_ok (m : Vf.Md) : OkT m 1 := .inl rfl
theorem tru_ok (m : Vf.Md) : OkT m 2 := .inl rfl
theorem result_ok {m : Vf.Md} (hR : Rt m) {k : Nat} {x : Vf.Un} (hx : m.units[k]? = some x) (hk : x.kind ≠ 4) : OkT m x.result := by
  rcases (typed_of (hR.heads k x hx).1).1 with h | h
  · exact absurd h hk
  · exact .inl h
theorem is_unit {m : Vf.Md} {kd a : Int} (h : Vf.is m kd a = true) : ∃ k : Nat, a = k ∧ m.units[k]? = some (Vf.unit m a) ∧ (Vf.unit m a).kind = kd := by
  obtain ⟨x, h1, h2, h3⟩ := is_some h
  have e : Vf.unit m a = x := by unfold Vf.unit; rw [h1]; rfl
  exact ⟨a.toNat, by omega, by rw [e]; exact h1, by rw [e]; exact h2⟩

theorem speak_ok {m : Vf.Md} {u : Vf.Un} {c : Vf.Ins} {st : List Int} (hR : Rt m) (hu : Vf.headE m u = 0) (hf : Vf.formE m u c = 0) (h : OkS m st) : Ok (OkS m) (Vf.speak m u c st) := by
  obtain ⟨_, _, hrg⟩ := formE_zero hf
  unfold Vf.speak
  refine ite_ind (P := Ok (OkS m)) (fun h1 => ?_) (fun g1 => ?_)
  · have h2 : Vf.is m 2 c.a = true := by
      rw [← hrg]
      unfold Vf.ranged
      rw [if_neg (by omega), if_neg (by omega), if_neg (by omega), if_pos h1]
    obtain ⟨k, _, h3, h4⟩ := is_unit h2
    exact turn_ok (result_ok hR h3 (by omega)) h
  refine ite_ind (P := Ok (OkS m)) (fun h1 => ?_) (fun g2 => ?_)
  · have h2 : Vf.is m 3 c.a = true := by
      rw [← hrg]
      unfold Vf.ranged
      rw [if_neg (by omega), if_neg (by omega), if_neg (by omega), if_neg (by omega), if_pos h1]
    obtain ⟨k, h5, _, _⟩ := is_unit h2
    exact turn_ok (.inr ⟨by omega, by rw [show 10 + c.a - 10 = c.a by omega]; exact h2⟩) h
  refine ite_ind (P := Ok (OkS m)) (fun h1 => ?_) (fun g3 => ?_)
  · exact takeR_ok _ _ h
  refine ite_ind (P := Ok (OkS m)) (fun h1 => ?_) (fun g4 => ?_)
  · have h2 : (decide (0 ≤ c.a) && decide (c.a < m.boxes.length)) = true := by
      rw [← hrg]
      unfold Vf.ranged
      rw [if_neg (by omega), if_neg (by omega), if_neg (by omega), if_neg (by omega), if_neg (by omega), if_pos (.inr h1)]
    simp only [Bool.and_eq_true, decide_eq_true_eq] at h2
    have h3 : m.boxes[c.a.toNat]? = some m.boxes[c.a.toNat] := List.getElem?_eq_getElem (by omega)
    refine put_ok (.inl ?_) h
    unfold Vf.boxTy
    rw [h3]
    exact hR.boxes _ _ h3
  refine ite_ind (P := Ok (OkS m)) (fun h1 => ?_) (fun g5 => ?_)
  · refine (pop_ok h).andThen fun p hp => (popGen_ok hp.2).andThen fun g hg => (must_ok hg.2).andThen fun st' hst => put_ok ?_ hst
    rcases hg.1.2 with h1 | ⟨_, h1⟩
    · have := hg.1.1
      unfold Vf.plain at h1
      simp at h1
      omega
    · obtain ⟨k, _, h3, h4⟩ := is_unit h1
      exact result_ok hR h3 (by omega)
  refine ite_ind (P := Ok (OkS m)) (fun h1 => ?_) (fun g6 => ?_)
  · exact (popGen_ok h).andThen fun g hg => put_ok (tru_ok m) hg.2
  refine ite_ind (P := Ok (OkS m)) (fun h1 => ?_) (fun g7 => ?_)
  · intro x hx
    by_cases hk : u.kind = 3
    · refine ((must_ok h).andThen fun st' hst => turn_ok ?_ hst) x hx
      rcases (typed_of hu).2.1 with h1 | h1
      · exact absurd hk h1
      · exact .inl h1
    · have e : (u.kind == 3) = false := by simpa using hk
      rw [e] at hx
      cases hx
  refine ite_ind (P := Ok (OkS m)) (fun h1 => ?_) (fun g8 => ?_)
  · exact (must_ok h).andThen fun _ h => (takeR_ok _ _ h).andThen fun _ h => must_ok h
  refine ite_ind (P := Ok (OkS m)) (fun h1 => ?_) (fun g9 => ?_)
  · exact (must_ok h).andThen fun _ h => must_ok h
  · intro x hx; cases hx; exact h

theorem reckS_ok {m : Vf.Md} {u : Vf.Un} {c : Vf.Ins} {k : Vf.Kn} (hR : Rt m) (hu : Vf.headE m u = 0) (hf : Vf.formE m u c = 0) (h : OkS m k.st) : Ok (OkS m) (Vf.reckS m u c k) := by
  obtain ⟨_, _, hrg⟩ := formE_zero hf
  unfold Vf.reckS
  refine ite_ind (P := Ok (OkS m)) (fun h1 => ?_) (fun g1 => ?_)
  · exact put_ok (num_ok m) h
  refine ite_ind (P := Ok (OkS m)) (fun h1 => ?_) (fun g2 => ?_)
  · exact put_ok (tru_ok m) h
  refine ite_ind (P := Ok (OkS m)) (fun h1 => ?_) (fun g3 => ?_)
  · have h2 : (decide (0 ≤ c.a) && decide (c.a < u.locals.length)) = true := by
      rw [← hrg]
      unfold Vf.ranged
      rw [if_neg (by omega), if_pos (.inl h1)]
    simp only [Bool.and_eq_true, decide_eq_true_eq] at h2
    have h3 : u.locals[c.a.toNat]? = some u.locals[c.a.toNat] := List.getElem?_eq_getElem (by omega)
    refine (must_ok h).andThen fun _ h => put_ok ?_ h
    unfold Vf.localTy
    rw [h3]
    exact (typed_of hu).2.2 _ (List.mem_of_getElem? h3)
  refine ite_ind (P := Ok (OkS m)) (fun h1 => ?_) (fun g4 => ?_)
  · exact takeR_ok _ _ h
  refine ite_ind (P := Ok (OkS m)) (fun h1 => ?_) (fun g5 => ?_)
  · exact (pop_ok h).andThen fun p hp x hx => by cases hx; exact hp.2
  refine ite_ind (P := Ok (OkS m)) (fun h1 => ?_) (fun g6 => ?_)
  · exact turn_ok (num_ok m) h
  refine ite_ind (P := Ok (OkS m)) (fun h1 => ?_) (fun g7 => ?_)
  · exact turn_ok (tru_ok m) h
  refine ite_ind (P := Ok (OkS m)) (fun h1 => ?_) (fun g8 => ?_)
  · exact turn_ok (num_ok m) h
  refine ite_ind (P := Ok (OkS m)) (fun h1 => ?_) (fun g9 => ?_)
  · exact turn_ok (tru_ok m) h
  refine ite_ind (P := Ok (OkS m)) (fun h1 => ?_) (fun g10 => ?_)
  · exact turn_ok (tru_ok m) h
  refine ite_ind (P := Ok (OkS m)) (fun h1 => ?_) (fun g11 => ?_)
  · exact (popPlain_ok h).andThen fun p hp => turn_ok (tru_ok m) hp.2
  refine ite_ind (P := Ok (OkS m)) (fun h1 => ?_) (fun g12 => ?_)
  · exact (popPlain_ok h).andThen fun p hp x hx => by cases hx; exact hp.2
  refine ite_ind (P := Ok (OkS m)) (fun h1 => ?_) (fun g13 => ?_)
  · exact takeR_ok _ _ h
  · exact speak_ok hR hu hf h

/-- What holds whenever an instruction is to be looked at. -/
structure Inv (m : Vf.Md) (u : Vf.Un) (s : Vf.S) : Prop where
  come : ∀ i k, s.come i = some k → i < u.code.length ∧ OkS m k.st
  row : ∀ i ∈ s.row, ∃ k, s.come i = some k
theorem note_inv {m : Vf.Md} {u : Vf.Un} {s : Vf.S} {i : Nat} {k : Vf.Kn} (h : Inv m u s) (hi : i < u.code.length) (hk : OkS m k.st) : Inv m u (s.note i k) := by
  refine ⟨fun j kj hj => ?_, fun j hj => ?_⟩
  · have hj' : (if j = i then some k else s.come j) = some kj := hj
    split at hj'
    · cases hj'; subst_vars; exact ⟨hi, hk⟩
    · exact h.come j kj hj'
  · show ∃ k', (if j = i then some k else s.come j) = some k'
    by_cases hji : j = i
    · exact ⟨k, if_pos hji⟩
    · rw [if_neg hji]
      rcases List.mem_append.1 hj with h1 | h1
      · exact h.row j h1
      · simp at h1; exact absurd h1 hji
theorem goOn_inv {m : Vf.Md} {u : Vf.Un} {s s' : Vf.S} {k : Vf.Kn} {t : Int} (h : Inv m u s) (h0 : 0 ≤ t) (hk : OkS m k.st) (hg : Vf.goOn u.code.length k t s = .ok s') : Inv m u s' ∧ s'.row.length ≤ s.row.length + 1 := by
  unfold Vf.goOn at hg
  split at hg
  · rename_i hlt
    have hn : t.toNat < u.code.length := by omega
    split at hg
    · cases hg
      exact ⟨note_inv h hn hk, by simp [Vf.S.note]⟩
    · rename_i kt hc
      split at hg
      · rename_i hst
        split at hg
        · cases hg; exact ⟨h, by omega⟩
        · cases hg
          exact ⟨note_inv h hn (by show OkS m kt.st; rw [hst]; exact hk), by simp [Vf.S.note]⟩
      · cases hg
  · cases hg
theorem goAll_inv {m : Vf.Md} {u : Vf.Un} {k : Vf.Kn} (hk : OkS m k.st) : ∀ {l : List Int} {s s' : Vf.S}, Inv m u s → (∀ t ∈ l, 0 ≤ t) → Vf.goAll u.code.length k l s = .ok s' → Inv m u s'
  | [], _, _, h, _, hg => by cases hg; exact h
  | t :: l, s, s', h, h0, hg => by
    unfold Vf.goAll Vf.andThen at hg
    split at hg
    · cases hg
    · rename_i s1 h1
      exact goAll_inv hk (goOn_inv h (h0 t List.mem_cons_self) hk h1).1 (fun t ht => h0 t (List.mem_cons_of_mem _ ht)) hg
end Go.Proofs.YtbdcmkmeljddmaaGreatDoor

/- What somebody comes to, plainly. -/
namespace Go.Proofs.YtbdcmkmeljddmaaGreatDoor
namespace Vf

theorem idx_keys (k : Lk) : ∀ (l l' : LL), l.map (·.1) = l'.map (·.1) → idx k l = idx k l'
  | [], [], _ => rfl
  | [], _ :: _, h => by cases h
  | _ :: _, [], h => by cases h
  | p :: r, p' :: r', h => by
    simp only [List.map_cons, List.cons.injEq] at h
    unfold idx
    rw [h.1, idx_keys k r r' h.2]
theorem setv_keys (j : Nat) (v : Int) : ∀ l : LL, (setv j v l).map (·.1) = l.map (·.1) := by
  induction j with
  | zero => intro l; cases l <;> rfl
  | succ j ih =>
    intro l
    cases l with
    | nil => rfl
    | cons p r =>
      show p.1 :: (setv j v r).map (·.1) = _
      rw [ih r]
      rfl
theorem setv_get (j : Nat) (v : Int) : ∀ (l : LL) (i : Nat), (setv j v l)[i]? = if i = j then (l[i]?).map (fun p => (p.1, v)) else l[i]? := by
  intro l i
  unfold setv
  rw [List.getElem?_modify]
  by_cases h : j = i
  · subst h; simp
  · rw [if_neg (fun e => h e.symm)]
    cases l[i]? <;> simp [h]
theorem idx_other {k k' : Lk} (hk : k' ≠ k) (v : Int) : ∀ l : LL, (idx k' (l ++ [(k, v)]) < l.length ↔ idx k' l < l.length) ∧ (idx k' l < l.length → idx k' (l ++ [(k, v)]) = idx k' l) ∧ (¬ idx k' l < l.length → idx k' (l ++ [(k, v)]) = l.length + 1)
  | [] => by simp [idx, hk]
  | p :: r => by
    have ih := idx_other hk v r
    show ((if k' = p.1 then 0 else idx k' (r ++ [(k, v)]) + 1) < _ ↔ (if k' = p.1 then 0 else idx k' r + 1) < _) ∧ _
    by_cases hp : k' = p.1
    · refine ⟨by simp [hp], fun _ => ?_, fun h => ?_⟩
      · show (if k' = p.1 then 0 else idx k' (r ++ [(k, v)]) + 1) = (if k' = p.1 then 0 else idx k' r + 1)
        rw [if_pos hp, if_pos hp]
      · exfalso
        apply h
        show (if k' = p.1 then 0 else idx k' r + 1) < _
        rw [if_pos hp]; simp
    · refine ⟨?_, fun h => ?_, fun h => ?_⟩
      · rw [if_neg hp, if_neg hp]
        simp only [List.length_cons]
        have := ih.1
        omega
      · show (if k' = p.1 then 0 else idx k' (r ++ [(k, v)]) + 1) = (if k' = p.1 then 0 else idx k' r + 1)
        have h' : (if k' = p.1 then 0 else idx k' r + 1) < (p :: r).length := h
        rw [if_neg hp] at h' ⊢
        rw [if_neg hp, ih.2.1 (by simp at h'; omega)]
      · show (if k' = p.1 then 0 else idx k' (r ++ [(k, v)]) + 1) = _
        have h' : ¬ (if k' = p.1 then 0 else idx k' r + 1) < (p :: r).length := h
        rw [if_neg hp] at h' ⊢
        rw [ih.2.2 (by simp at h'; omega)]
        rfl
theorem cnt_none {k : Lk} {l : LL} (h : ¬ idx k l < l.length) : cnt k l = 0 := cnt_out h
theorem cnt_bump (k k' : Lk) (l : LL) : cnt k' (bump k l) = if k' = k then cnt k l + 1 else cnt k' l := by
  obtain ⟨e1, e2, e3⟩ := ent0_idx k l
  have hi : ∀ q, idx q (bump k l) = idx q (ent0 k l) := fun q => idx_keys q _ _ (setv_keys _ _ _)
  by_cases hk : k' = k
  · subst hk
    rw [if_pos rfl]
    conv => lhs; unfold cnt
    rw [hi, e1]
    unfold bump
    rw [setv_get, if_pos rfl, e3]
    rfl
  · rw [if_neg hk]
    conv => lhs; unfold cnt
    rw [hi]
    unfold bump
    unfold ent0 at e2 e3 ⊢
    by_cases h : idx k l < l.length
    · rw [if_pos h] at e2 e3 ⊢
      by_cases h' : idx k' l < l.length
      · obtain ⟨v, hv⟩ := idx_at h
        obtain ⟨v', hv'⟩ := idx_at h'
        have hne : idx k' l ≠ idx k l := fun e => by rw [e, hv] at hv'; cases hv'; exact hk rfl
        rw [setv_get, if_neg hne]
        rfl
      · rw [List.getElem?_eq_none (by unfold setv; simp; omega), cnt_none h']
        rfl
    · rw [if_neg h] at e2 e3 ⊢
      obtain ⟨o1, o2, o3⟩ := idx_other hk 0 l
      have hkl : idx k l = l.length := by have := idx_le k l; omega
      by_cases h' : idx k' l < l.length
      · rw [o2 h', setv_get, if_neg (by omega), List.getElem?_append_left h']
        rfl
      · rw [o3 h', List.getElem?_eq_none (by unfold setv; simp), cnt_none h']
        rfl

/-- Keys that are once, as often as at least once. -/
structure Wl (l : LL) : Prop where
  nodup : (l.map (·.1)).Nodup
  pos : ∀ p ∈ l, 1 ≤ p.2
theorem mem_idx {p : Lk × Int} : ∀ {l : LL}, (l.map (·.1)).Nodup → p ∈ l → cnt p.1 l = p.2 ∧ idx p.1 l < l.length
  | [], _, h => by cases h
  | q :: r, hn, h => by
    simp only [List.map_cons, List.nodup_cons] at hn
    by_cases hq : p.1 = q.1
    · have hpq : p = q := by
        rcases List.mem_cons.1 h with h1 | h1
        · exact h1
        · exact absurd (List.mem_map.2 ⟨p, h1, hq⟩) hn.1
      subst hpq
      have e : idx p.1 (p :: r) = 0 := by unfold idx; rw [if_pos rfl]
      unfold cnt
      rw [e]
      exact ⟨rfl, by simp⟩
    · have hr : p ∈ r := by
        rcases List.mem_cons.1 h with h1 | h1
        · exact absurd (by rw [h1]) hq
        · exact h1
      obtain ⟨h1, h2⟩ := mem_idx hn.2 hr
      have e : idx p.1 (q :: r) = idx p.1 r + 1 := by rw [idx, if_neg hq]
      unfold cnt at h1 ⊢
      rw [e]
      exact ⟨h1, by simp; omega⟩
theorem idx_mem {k : Lk} {l : LL} (h : idx k l < l.length) : (k, cnt k l) ∈ l := by
  obtain ⟨v, hv⟩ := idx_at h
  have e : cnt k l = v := by unfold cnt; rw [hv]; rfl
  rw [e]
  exact List.mem_of_getElem? hv
theorem cnt_nn {l : LL} (h : Wl l) (k : Lk) : 0 ≤ cnt k l := by
  by_cases hi : idx k l < l.length
  · have := h.pos _ (idx_mem hi); simp at this; omega
  · rw [cnt_none hi]; omega
theorem cnt_pos {l : LL} (h : Wl l) {k : Lk} : idx k l < l.length ↔ 1 ≤ cnt k l := by
  constructor
  · intro hi; exact h.pos _ (idx_mem hi)
  · intro hc
    by_cases hi : idx k l < l.length
    · exact hi
    · rw [cnt_none hi] at hc; omega
theorem bump_keys (k : Lk) (l : LL) : (bump k l).map (·.1) = (ent0 k l).map (·.1) := setv_keys _ _ _
theorem Wl.bump {l : LL} (h : Wl l) (k : Lk) : Wl (Vf.bump k l) := by
  have hnd : ((Vf.bump k l).map (·.1)).Nodup := by
    rw [bump_keys]
    unfold ent0
    split
    · exact h.nodup
    · rename_i hi
      rw [List.map_append, List.nodup_append]
      refine ⟨h.nodup, by simp, fun a ha b hb e => ?_⟩
      simp at hb
      subst hb
      subst e
      obtain ⟨p, hp, hpk⟩ := List.mem_map.1 ha
      have := (mem_idx h.nodup hp).2
      rw [hpk] at this
      exact hi this
  refine ⟨hnd, fun p hp => ?_⟩
  have h1 := (mem_idx hnd hp).1
  rw [← h1, cnt_bump]
  split
  · have := cnt_nn h k; omega
  · rename_i hne
    have h2 := (mem_idx hnd hp).2
    -- it was there ahead
    have h3 : p.1 ∈ (Vf.bump k l).map (·.1) := List.mem_map.2 ⟨p, hp, rfl⟩
    rw [bump_keys] at h3
    unfold ent0 at h3
    split at h3
    · obtain ⟨q, hq, hqk⟩ := List.mem_map.1 h3
      have := h.pos q hq
      have h4 := (mem_idx h.nodup hq).1
      rw [hqk] at h4
      omega
    · rw [List.map_append] at h3
      rcases List.mem_append.1 h3 with h5 | h5
      · obtain ⟨q, hq, hqk⟩ := List.mem_map.1 h5
        have := h.pos q hq
        have h4 := (mem_idx h.nodup hq).1
        rw [hqk] at h4
        omega
      · simp at h5; exact absurd h5 hne
theorem Wl.nil : Wl [] := ⟨by simp, fun p hp => by cases hp⟩

/-- All together. -/
def tot (l : LL) : Int := (l.map (·.2)).sum
theorem tot_app (l : LL) (p : Lk × Int) : tot (l ++ [p]) = tot l + p.2 := by unfold tot; simp
theorem tot_set {v : Int} : ∀ (l : LL) (j : Nat) (p : Lk × Int), l[j]? = some p → tot (setv j v l) = tot l - p.2 + v
  | [], j, p, h => by simp at h
  | q :: r, 0, p, h => by
    simp at h
    subst h
    show ((v :: r.map (·.2)).sum : Int) = (q.2 :: r.map (·.2)).sum - q.2 + v
    simp
    omega
  | q :: r, j + 1, p, h => by
    have := tot_set (v := v) r j p (by simpa using h)
    have e1 : tot (setv (j + 1) v (q :: r)) = q.2 + tot (setv j v r) := by show (q.2 :: (setv j v r).map (·.2)).sum = _; simp [tot]
    have e2 : tot (q :: r) = q.2 + tot r := by simp [tot]
    omega
theorem tot_bump (k : Lk) (l : LL) : tot (bump k l) = tot l + 1 := by
  obtain ⟨e1, e2, e3⟩ := ent0_idx k l
  unfold bump
  rw [tot_set _ _ _ e3]
  have : tot (ent0 k l) = tot l := by
    unfold ent0
    split
    · rfl
    · rw [tot_app]; simp
  simp only
  omega
/-- The keys under which units are come to. -/
def univ : List Lk := (List.range 30).flatMap fun (a : Nat) => [((23 : Int), (a : Int)), ((29 : Int), (a : Int))]
theorem univ_mem {op : Int} {a : Nat} (ho : op = 23 ∨ op = 29) (ha : a < 30) : (op, (a : Int)) ∈ univ := by
  unfold univ
  rw [List.mem_flatMap]
  exact ⟨a, List.mem_range.2 ha, by rcases ho with rfl | rfl <;> simp⟩
theorem univ_len : univ.length = 60 := by decide
/-- How many of these there are not yet. -/
def mus (l : LL) : Nat := univ.countP (fun k => decide (cnt k l = 0))
theorem count_lt {α : Type} {p q : α → Bool} (h : ∀ x, q x = true → p x = true) : ∀ {l : List α} {x : α}, x ∈ l → p x = true → q x = false → l.countP q + 1 ≤ l.countP p
  | y :: l, x, hx, hp, hq => by
    have hle : l.countP q ≤ l.countP p := List.countP_mono_left (fun z _ => h z)
    rcases List.mem_cons.1 hx with rfl | hx
    · rw [List.countP_cons_of_neg (by rw [hq]; decide), List.countP_cons_of_pos hp]
      omega
    · have := count_lt h hx hp hq
      rw [List.countP_cons, List.countP_cons]
      have h1 := h y
      cases hqy : q y
      · simp; omega
      · rw [h1 hqy]; simp; omega
theorem mus_bump {l : LL} (h : Wl l) (k : Lk) : mus (bump k l) ≤ mus l := List.countP_mono_left (fun q _ hq => by
  simp only [decide_eq_true_eq] at hq ⊢
  rw [cnt_bump] at hq
  split at hq
  · have := cnt_nn h k; omega
  · exact hq)
theorem mus_new {l : LL} (h : Wl l) {k : Lk} (hk : k ∈ univ) (h0 : cnt k l = 0) : mus (bump k l) + 1 ≤ mus l := count_lt (fun q hq => by
  simp only [decide_eq_true_eq] at hq ⊢
  rw [cnt_bump] at hq
  split at hq
  · have := cnt_nn h k; omega
  · exact hq) hk (by simpa using h0) (by simp [cnt_bump, h0])

def gstep (rec' : Int → LL → LL) (c : Ins) (l : LL) : LL :=
  if c.op = 26 ∨ c.op = 27 then bump (c.op, c.a) l
  else if c.op = 23 ∨ c.op = 29 then (if cnt (c.op, c.a) l = 0 then rec' c.a (bump (c.op, c.a) l) else bump (c.op, c.a) l)
  else l
def gatC (rec' : Int → LL → LL) (cs : List Ins) (l : LL) : LL := cs.foldl (fun l c => gstep rec' c l) l
/-- What is gathered from a unit on. -/
def gat (m : Md) : Nat → Int → LL → LL
  | 0, _, l => l
  | f + 1, n, l => gatC (gat m f) (unit m n).code l

/-- What a gathering keeps to. -/
structure Gd (d : Int) (l l' : LL) : Prop where
  wl : Wl l'
  mus : Vf.mus l' ≤ Vf.mus l
  tot : Vf.tot l' + 4000 * Vf.mus l' ≤ Vf.tot l + 4000 * Vf.mus l + d
theorem gstep_gd {m : Md} {u : Un} {c : Ins} {l : LL} {rec' : Int → LL → LL} (hmu : m.units.length ≤ 30) (hf : formE m u c = 0) (hl : Wl l) (hrec : ∀ n l, Wl l → Gd 4000 l (rec' n l)) : Gd 1 l (gstep rec' c l) := by
  have hb : Gd 1 l (bump (c.op, c.a) l) := ⟨hl.bump _, mus_bump hl _, by have := mus_bump hl (c.op, c.a); rw [tot_bump]; omega⟩
  unfold gstep
  split
  · exact hb
  · split
    · rename_i h1 h2
      split
      · rename_i h0
        have hr := hrec c.a _ hb.wl
        obtain ⟨_, _, hrg⟩ := formE_zero hf
        have hk : ∃ k : Nat, c.a = k ∧ k < 30 := by
          have : ∃ kd, is m kd c.a = true := by
            rcases h2 with h | h
            · refine ⟨2, ?_⟩
              rw [← hrg]
              unfold ranged
              rw [if_neg (by omega), if_neg (by omega), if_neg (by omega), if_pos h]
            · refine ⟨3, ?_⟩
              rw [← hrg]
              unfold ranged
              rw [if_neg (by omega), if_neg (by omega), if_neg (by omega), if_neg (by omega), if_pos h]
          obtain ⟨kd, this⟩ := this
          obtain ⟨x, h3, _, h4⟩ := is_some this
          have := (List.getElem?_eq_some_iff.1 h3).1
          exact ⟨c.a.toNat, by omega, by omega⟩
        obtain ⟨k, hka, hk30⟩ := hk
        have hn := mus_new hl (k := (c.op, c.a)) (by rw [hka]; exact univ_mem h2 hk30) h0
        have ht := hr.tot
        rw [tot_bump] at ht
        exact ⟨hr.wl, Nat.le_trans hr.mus hb.mus, by omega⟩
      · exact hb
    · exact ⟨hl, Nat.le_refl _, by omega⟩
theorem gatC_gd {m : Md} {u : Un} {rec' : Int → LL → LL} (hmu : m.units.length ≤ 30) (hrec : ∀ n l, Wl l → Gd 4000 l (rec' n l)) : ∀ (cs : List Ins) (l : LL), (∀ c ∈ cs, formE m u c = 0) → Wl l → Gd cs.length l (gatC rec' cs l)
  | [], l, _, hl => ⟨hl, Nat.le_refl _, by show tot l + 4000 * (mus l : Int) ≤ tot l + 4000 * (mus l : Int) + ((0 : Nat) : Int); omega⟩
  | c :: cs, l, hf, hl => by
    have h1 := gstep_gd hmu (hf c List.mem_cons_self) hl hrec
    have h2 := gatC_gd hmu hrec cs (gstep rec' c l) (fun c hc => hf c (List.mem_cons_of_mem _ hc)) h1.wl
    have e : gatC rec' (c :: cs) l = gatC rec' cs (gstep rec' c l) := rfl
    rw [e]
    have t1 := h1.tot
    have t2 := h2.tot
    exact ⟨h2.wl, Nat.le_trans h2.mus h1.mus, by simp only [List.length_cons]; omega⟩
theorem unit_in {m : Md} (hR : Rt m) (n : Int) : (unit m n).code.length ≤ 4000 ∧ ∀ c ∈ (unit m n).code, formE m (unit m n) c = 0 := by
  unfold unit
  cases h : m.units[n.toNat]? with
  | none => exact ⟨by simp, fun c hc => by cases hc⟩
  | some u => exact ⟨(sized_true (headE_zero (hR.heads _ u h).1).2.1).2.2.2.2.2, (hR.heads _ u h).2⟩
theorem gat_gd {m : Md} (hR : Rt m) : ∀ (f : Nat) (n : Int) (l : LL), Wl l → Gd 4000 l (gat m f n l)
  | 0, _, l, hl => ⟨hl, Nat.le_refl _, by show tot l + 4000 * (mus l : Int) ≤ tot l + 4000 * (mus l : Int) + 4000; omega⟩
  | f + 1, n, l, hl => by
    have hu := unit_in hR n
    have h := gatC_gd (u := unit m n) hR.units (gat_gd hR f) (unit m n).code l hu.2 hl
    exact ⟨h.wl, h.mus, by have := h.tot; show tot (gatC _ _ _) + 4000 * ((mus (gatC _ _ _) : Nat) : Int) ≤ _; omega⟩

end Vf
end Go.Proofs.YtbdcmkmeljddmaaGreatDoor

