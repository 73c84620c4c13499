/- What an instruction does with the stack, in the document's letters: the same, plainly. -/
import Derived.Test.YtbkimpimoclobaaM29
import Derived.Test.YtbkimpimoclobaaM9
namespace Go.Proofs.Ytbkimpimoclobaa
namespace Vf

/-- What the document's Needs says. -/
def needs (m : Md) (u : Un) (c : Ins) : List UInt8 × List UInt8 :=
  if c.op = 1 then ([], [110])
  else if c.op = 2 then ([], [98])
  else if c.op = 3 then ([], [ltr (localTy u c.a)])
  else if c.op = 4 then ([ltr (localTy u c.a)], [])
  else if c.op = 5 then ([42], [])
  else if c.op = 6 then ([110], [110])
  else if c.op = 7 then ([98], [98])
  else if 8 ≤ c.op ∧ c.op ≤ 12 then ([110, 110], [110])
  else if 15 ≤ c.op ∧ c.op ≤ 18 then ([110, 110], [98])
  else if c.op = 19 ∨ c.op = 20 then ([98, 98], [98])
  else if c.op = 13 ∨ c.op = 14 then ([63, 63], [98])
  else if c.op = 28 then ([63], [])
  else if c.op = 22 then ([98], [])
  else if c.op = 23 then ((params m c.a).map ltr, [ltr (unit m c.a).result])
  else if c.op = 29 then ((params m c.a).map ltr, [ltr (10 + c.a)])
  else if c.op = 26 then ([ltr (boxTy m c.a)], [])
  else if c.op = 27 then ([], [ltr (boxTy m c.a)])
  else if c.op = 31 then ([ltr u.result], [ltr u.takes])
  else if c.op = 24 then ([ltr u.result], [])
  else ([], [])
def rneed (m : Md) (u : Un) (c : Ins) (st : List Int) : Except Int (List UInt8 × List UInt8) :=
  if c.op = 30 then
    match st with
    | _ :: g :: _ => if plain g = true then .error 9 else .ok ([ltr g, ltr (unit m (g - 10)).takes], [ltr (unit m (g - 10)).result])
    | _ => .error 12
  else if c.op = 32 then
    match st with
    | g :: _ => if plain g = true then .error 9 else .ok ([ltr g], [98])
    | [] => .error 12
  else .ok (needs m u c)
def rput (c : Ins) (put rest : List UInt8) : Except Int (List UInt8) :=
  if 300 < (put.reverse ++ rest).length then .error 4 else if (c.op = 24 ∨ c.op = 25) ∧ put.reverse ++ rest ≠ [] then .error 12 else .ok (put.reverse ++ rest)
def early (u : Un) (c : Ins) : Prop := (c.op = 24 ∧ u.kind ≠ 2) ∨ (c.op = 25 ∧ u.kind = 2) ∨ (c.op = 31 ∧ u.kind ≠ 3)
instance (u : Un) (c : Ins) : Decidable (early u c) := by unfold early; exact inferInstance
def rreck (m : Md) (u : Un) (c : Ins) (k : Kn) : Except Int (List UInt8) :=
  if c.op = 3 ∧ k.fl.has c.a.toNat = false then .error 11
  else if early u c then .error 8
  else andThen (rneed m u c k.st) fun p => andThen (rtk p.1.reverse (k.st.map ltr) 0) fun r => rput c p.2 r
def lmap (r : Except Int (List Int)) : Except Int (List UInt8) := match r with | .ok st => .ok (st.map ltr) | .error e => .error e

theorem ltr_ne {t : Int} (h : Lt t) : ltr t ≠ 42 ∧ ltr t ≠ 63 := by
  rcases h with rfl | rfl | h
  · decide
  · decide
  · rw [ltr_gen h.1]
    constructor
    · intro e
      have := congrArg UInt8.toNat e
      rw [UInt8.toNat_ofNat'] at this
      have e2 : (42 : UInt8).toNat = 42 := rfl
      omega
    · intro e
      have := congrArg UInt8.toNat e
      rw [UInt8.toNat_ofNat'] at this
      have e2 : (63 : UInt8).toNat = 63 := rfl
      omega
theorem lt_plain {t : Int} (h : plain t = true) : Lt t := by
  unfold plain at h
  simp at h
  rcases h with h | h
  · exact .inl h
  · exact .inr (.inl h)
theorem plain_lt {t : Int} (h : Lt t) : plain t = true ↔ ltr t = 110 ∨ ltr t = 98 := by
  constructor
  · intro hp
    unfold plain at hp
    simp at hp
    rcases hp with rfl | rfl
    · exact .inl rfl
    · exact .inr rfl
  · rintro (e | e)
    · have := ltr_inj h (.inl rfl) (e.trans (show (110 : UInt8) = ltr 1 from rfl))
      subst this
      rfl
    · have := ltr_inj h (.inr (.inl rfl)) (e.trans (show (98 : UInt8) = ltr 2 from rfl))
      subst this
      rfl
/-- What is wanted by letter is wanted by type. -/
theorem rtk_take : ∀ (ts st : List Int) (last : UInt8), (∀ t ∈ ts, Lt t) → (∀ t ∈ st, Lt t) → rtk (ts.map ltr) (st.map ltr) last = lmap (takeR ts st)
  | [], st, last, _, _ => rfl
  | t :: ts, [], last, _, _ => rfl
  | t :: ts, x :: st, last, h1, h2 => by
    have ht := ltr_ne (h1 t List.mem_cons_self)
    show rtk (ltr t :: ts.map ltr) (ltr x :: st.map ltr) last = lmap (takeR (t :: ts) (x :: st))
    unfold rtk takeR
    rw [if_neg ht.1, if_neg ht.2]
    by_cases e : x = t
    · subst e
      rw [if_pos rfl, if_pos rfl]
      exact rtk_take ts st last (fun t ht => h1 t (List.mem_cons_of_mem _ ht)) (fun t ht => h2 t (List.mem_cons_of_mem _ ht))
    · rw [if_neg e, if_neg (fun e2 => e (ltr_inj (h2 x List.mem_cons_self) (h1 t List.mem_cons_self) e2))]
      rfl
theorem rput_one {c : Ins} (x : Int) (st : List Int) (h : c.op ≠ 24 ∧ c.op ≠ 25) : rput c [ltr x] (st.map ltr) = lmap (put x st) := by
  unfold rput put
  simp only [List.reverse_cons, List.reverse_nil, List.nil_append, List.singleton_append, List.length_cons, List.length_map]
  by_cases hl : st.length + 1 ≤ 300
  · rw [if_neg (by omega), if_neg (by omega), if_pos hl]
    rfl
  · rw [if_pos (by omega), if_neg hl]
    rfl
theorem rput_none {c : Ins} (st : List Int) (hl : st.length ≤ 300) (h : c.op ≠ 24 ∧ c.op ≠ 25) : rput c [] (st.map ltr) = .ok (st.map ltr) := by
  unfold rput
  rw [if_neg (by simp; omega), if_neg (fun hh => by rcases hh.1 with h1 | h1; exact h.1 h1; exact h.2 h1)]
  rfl
theorem takeR_few : ∀ (ts st st' : List Int), takeR ts st = .ok st' → st'.length ≤ st.length
  | [], st, st', h => by cases h; exact Nat.le_refl _
  | _ :: _, [], _, h => by cases h
  | t :: ts, x :: r, st', h => by
    unfold takeR at h
    split at h
    · have := takeR_few ts r st' h
      simp
      omega
    · cases h
theorem rturn {c : Ins} (x : Int) (l st : List Int) (hl : ∀ t ∈ l, Lt t) (hs : ∀ t ∈ st, Lt t) (h : c.op ≠ 24 ∧ c.op ≠ 25) : andThen (rtk (l.map ltr).reverse (st.map ltr) 0) (fun r => rput c [ltr x] r) = lmap (turn x l st) := by
  have e : (l.map ltr).reverse = l.reverse.map ltr := by rw [List.map_reverse]
  rw [e, rtk_take _ _ _ (fun t ht => hl t (List.mem_reverse.1 ht)) hs]
  unfold turn
  cases takeR l.reverse st with
  | error e => rfl
  | ok r => exact rput_one x r h
theorem rtakes {c : Ins} (l st : List Int) (hl : ∀ t ∈ l, Lt t) (hs : ∀ t ∈ st, Lt t) (hf : st.length ≤ 300) (h : c.op ≠ 24 ∧ c.op ≠ 25) : andThen (rtk (l.map ltr).reverse (st.map ltr) 0) (fun r => rput c [] r) = lmap (takeR l.reverse st) := by
  have e : (l.map ltr).reverse = l.reverse.map ltr := by rw [List.map_reverse]
  rw [e, rtk_take _ _ _ (fun t ht => hl t (List.mem_reverse.1 ht)) hs]
  cases hr : takeR l.reverse st with
  | error e => rfl
  | ok r => exact rput_none r (by have := takeR_few _ _ _ hr; omega) h
theorem rpush {c : Ins} (x : Int) (st : List Int) (h : c.op ≠ 24 ∧ c.op ≠ 25) : andThen (rtk ([] : List UInt8).reverse (st.map ltr) 0) (fun r => rput c [ltr x] r) = lmap (put x st) := by
  show rput c [ltr x] (st.map ltr) = _
  exact rput_one x st h
theorem okt_lt {m : Md} (hm : m.units.length ≤ 30) {t : Int} (h : OkT m t) : Lt t := by
  rcases h with h | ⟨h1, h2⟩
  · exact lt_plain h
  · obtain ⟨u, hu, _, h3⟩ := is_some h2
    have := (List.getElem?_eq_some_iff.1 hu).1
    exact .inr (.inr ⟨h1, by omega⟩)
end Vf
end Go.Proofs.Ytbkimpimoclobaa

/- What an instruction does with the stack, in the document's letters: IT IS THE SAME. -/
namespace Go.Proofs.Ytbkimpimoclobaa
namespace Vf

theorem early_no {u : Un} {c : Ins} (h1 : c.op ≠ 24) (h2 : c.op ≠ 25) (h3 : c.op ≠ 31) : ¬ early u c := by
  unfold early
  omega
/-- All that is no Load, nor asks for a kind. -/
theorem rreck_plain {m : Md} {u : Un} {c : Ins} {k : Kn} (h : c.op ≠ 3 ∧ c.op ≠ 24 ∧ c.op ≠ 25 ∧ c.op ≠ 31 ∧ c.op ≠ 30 ∧ c.op ≠ 32) : rreck m u c k = andThen (rtk (needs m u c).1.reverse (k.st.map ltr) 0) fun r => rput c (needs m u c).2 r := by
  unfold rreck
  rw [if_neg (fun hh => h.1 hh.1), if_neg (early_no h.2.1 h.2.2.1 h.2.2.2.1)]
  unfold rneed
  rw [if_neg h.2.2.2.2.1, if_neg h.2.2.2.2.2]
  rfl
theorem st_lt {m : Md} (hR : Rt m) {st : List Int} (h : OkS m st) : ∀ t ∈ st, Lt t := fun t ht => okt_lt hR.units (h.1 t ht)

theorem rreck_eq {m : Md} {u : Un} {c : Ins} {k : Kn} (hR : Rt m) (hu : headE m u = 0) (hf : formE m u c = 0) (h : OkS m k.st) : rreck m u c k = lmap (reckS m u c k) := by
  have hlt := st_lt hR h
  have h300 := h.2
  obtain ⟨hty1, hty2, hty3⟩ := typed_of hu
  obtain ⟨hop1, hop32, hrg⟩ := formE_zero hf
  have l1 : Lt 1 := .inl rfl
  have l2 : Lt 2 := .inr (.inl rfl)
  by_cases o3 : c.op = 3
  · have en : needs m u c = ([], [ltr (localTy u c.a)]) := by unfold needs; rw [if_neg (by omega), if_neg (by omega), if_pos o3]
    have er : reckS m u c k = andThen (must (k.fl.has c.a.toNat) 11 k.st) (put (localTy u c.a)) := by unfold reckS; rw [if_neg (by omega), if_neg (by omega), if_pos o3]
    rw [er]
    unfold rreck
    cases hh : k.fl.has c.a.toNat with
    | false =>
      rw [if_pos ⟨o3, rfl⟩]
      rfl
    | true =>
      rw [if_neg (fun x => by cases x.2), if_neg (early_no (by omega) (by omega) (by omega))]
      unfold rneed
      rw [if_neg (by omega), if_neg (by omega), en]
      exact rpush _ _ ⟨by omega, by omega⟩
  by_cases o24 : c.op = 24
  · have en : needs m u c = ([ltr u.result], []) := by
      unfold needs
      iterate 7 rw [if_neg (by omega)]
      iterate 11 rw [if_neg (by omega)]
      rw [if_pos o24]
    have er : reckS m u c k = andThen (must (u.kind == 2) 8 k.st) fun st => andThen (takeR [u.result] st) fun st => must (st.length == 0) 12 st := by
      unfold reckS
      iterate 13 rw [if_neg (by omega)]
      unfold speak
      iterate 7 rw [if_neg (by omega)]
      rw [if_pos o24]
    rw [er]
    unfold rreck
    rw [if_neg (fun hh => o3 hh.1)]
    by_cases hk : u.kind = 2
    · have e2 : (u.kind == 2) = true := by simpa using hk
      rw [if_neg (by unfold early; omega), e2]
      unfold rneed
      rw [if_neg (by omega), if_neg (by omega), en]
      have hl : ∀ t ∈ [u.result], Lt t := by
        intro t ht
        simp at ht
        subst ht
        exact lt_plain (hty1.resolve_left (by omega))
      have e := rtk_take [u.result] k.st 0 hl hlt
      show andThen (rtk (List.map ltr [u.result]) (k.st.map ltr) 0) (fun r => rput c [] r) = lmap (andThen (takeR [u.result] k.st) fun st => must (st.length == 0) 12 st)
      rw [e]
      cases hr : takeR [u.result] k.st with
      | error e => rfl
      | ok r =>
        have hf3 := takeR_few _ _ _ hr
        show rput c [] (r.map ltr) = lmap (must (r.length == 0) 12 r)
        unfold rput
        rw [if_neg (by simp; omega)]
        cases r with
        | nil =>
          rw [if_neg (fun hh => hh.2 rfl)]
          rfl
        | cons x r =>
          rw [if_pos ⟨.inl o24, by simp⟩]
          rfl
    · have e2 : (u.kind == 2) = false := by simpa using hk
      rw [if_pos (.inl ⟨o24, hk⟩), e2]
      rfl
  by_cases o25 : c.op = 25
  · have en : needs m u c = ([], []) := by
      unfold needs
      iterate 19 rw [if_neg (by omega)]
    have er : reckS m u c k = andThen (must (u.kind != 2) 8 k.st) fun st => must (st.length == 0) 12 st := by
      unfold reckS
      iterate 13 rw [if_neg (by omega)]
      unfold speak
      iterate 8 rw [if_neg (by omega)]
      rw [if_pos o25]
    rw [er]
    unfold rreck
    rw [if_neg (fun hh => o3 hh.1)]
    by_cases hk : u.kind = 2
    · have e2 : (u.kind != 2) = false := by simp [hk]
      rw [if_pos (.inr (.inl ⟨o25, hk⟩)), e2]
      rfl
    · have e2 : (u.kind != 2) = true := by simpa using hk
      rw [if_neg (by unfold early; omega), e2]
      unfold rneed
      rw [if_neg (by omega), if_neg (by omega), en]
      show rput c [] (k.st.map ltr) = lmap (must (k.st.length == 0) 12 k.st)
      unfold rput
      rw [if_neg (by simp; omega)]
      cases k.st with
      | nil =>
        rw [if_neg (fun hh => hh.2 rfl)]
        rfl
      | cons x r =>
        rw [if_pos ⟨.inr o25, by simp⟩]
        rfl
  by_cases o31 : c.op = 31
  · have en : needs m u c = ([ltr u.result], [ltr u.takes]) := by
      unfold needs
      iterate 17 rw [if_neg (by omega)]
      rw [if_pos o31]
    have er : reckS m u c k = andThen (must (u.kind == 3) 8 k.st) (turn u.takes [u.result]) := by
      unfold reckS
      iterate 13 rw [if_neg (by omega)]
      unfold speak
      iterate 6 rw [if_neg (by omega)]
      rw [if_pos o31]
    rw [er]
    unfold rreck
    rw [if_neg (fun hh => o3 hh.1)]
    by_cases hk : u.kind = 3
    · have e2 : (u.kind == 3) = true := by simpa using hk
      rw [if_neg (by unfold early; omega), e2]
      unfold rneed
      rw [if_neg (by omega), if_neg (by omega), en]
      exact rturn u.takes [u.result] k.st (by
        intro t ht
        simp at ht
        subst ht
        exact lt_plain (hty1.resolve_left (by omega))) hlt ⟨by omega, by omega⟩
    · have e2 : (u.kind == 3) = false := by simpa using hk
      rw [if_pos (.inr (.inr ⟨o31, hk⟩)), e2]
      rfl
  by_cases o30 : c.op = 30
  · have er : reckS m u c k = resume m k.st := by
      unfold reckS
      iterate 13 rw [if_neg (by omega)]
      unfold speak
      iterate 4 rw [if_neg (by omega)]
      rw [if_pos o30]
    rw [er]
    unfold rreck
    rw [if_neg (fun hh => o3 hh.1), if_neg (early_no o24 o25 o31)]
    unfold rneed
    rw [if_pos o30]
    obtain ⟨st, fl⟩ := k
    match st, hlt, h with
    | [], _, _ => rfl
    | [_], _, _ => rfl
    | x :: g :: r, hlt, h =>
      have hg : OkT m g := h.1 g (by simp)
      by_cases hp : plain g = true
      · have h10 : ¬ 10 ≤ g := by unfold plain at hp; simp at hp; omega
        simp only [hp, if_true]
        show Except.error 9 = lmap (andThen (popGen (g :: r)) _)
        unfold popGen
        show Except.error 9 = lmap (andThen (if 10 ≤ g then .ok (g, r) else .error 9) _)
        rw [if_neg h10]
        rfl
      · have h10 : 10 ≤ g ∧ is m 3 (g - 10) = true := hg.resolve_left hp
        obtain ⟨q, hq1, hq2, hq3⟩ := is_unit h10.2
        have ht3 := (typed_of (hR.heads q _ hq2).1)
        have htk : Lt (unit m (g - 10)).takes := lt_plain (ht3.2.1.resolve_left (by omega))
        show andThen (if plain g = true then .error 9 else .ok ([ltr g, ltr (unit m (g - 10)).takes], [ltr (unit m (g - 10)).result])) _ = _
        rw [if_neg hp]
        show andThen (rtk (List.map ltr [(unit m (g - 10)).takes, g]) (List.map ltr (x :: g :: r)) 0) (fun r => rput c [ltr (unit m (g - 10)).result] r) = lmap (andThen (popGen (g :: r)) fun g' => andThen (must (x == (unit m (g'.1 - 10)).takes) 9 g'.2) (put (unit m (g'.1 - 10)).result))
        rw [rtk_take _ _ _ (by intro t ht; simp at ht; rcases ht with rfl | rfl; exact htk; exact .inr (.inr ⟨h10.1, by have := (List.getElem?_eq_some_iff.1 hq2).1; have := hR.units; omega⟩)) hlt]
        unfold popGen
        show _ = lmap (andThen (if 10 ≤ g then .ok (g, r) else .error 9) _)
        rw [if_pos h10.1]
        show andThen (lmap (takeR [(unit m (g - 10)).takes, g] (x :: g :: r))) _ = lmap (andThen (must (x == (unit m (g - 10)).takes) 9 r) (put (unit m (g - 10)).result))
        unfold takeR
        by_cases hx : x = (unit m (g - 10)).takes
        · have e2 : (x == (unit m (g - 10)).takes) = true := by simpa using hx
          rw [if_pos hx, e2]
          unfold takeR
          rw [if_pos rfl]
          exact rput_one _ _ ⟨by omega, by omega⟩
        · have e2 : (x == (unit m (g - 10)).takes) = false := by simpa using hx
          rw [if_neg hx, e2]
          rfl
  by_cases o32 : c.op = 32
  · have er : reckS m u c k = andThen (popGen k.st) fun g => put 2 g.2 := by
      unfold reckS
      iterate 13 rw [if_neg (by omega)]
      unfold speak
      iterate 5 rw [if_neg (by omega)]
      rw [if_pos o32]
    rw [er]
    unfold rreck
    rw [if_neg (fun hh => o3 hh.1), if_neg (early_no o24 o25 o31)]
    unfold rneed
    rw [if_neg o30, if_pos o32]
    obtain ⟨st, fl⟩ := k
    match st, hlt, h with
    | [], _, _ => rfl
    | g :: r, hlt, h =>
      have hg : OkT m g := h.1 g (by simp)
      by_cases hp : plain g = true
      · have h10 : ¬ 10 ≤ g := by unfold plain at hp; simp at hp; omega
        simp only [hp, if_true]
        show Except.error 9 = lmap (andThen (if 10 ≤ g then .ok (g, r) else .error 9) _)
        rw [if_neg h10]
        rfl
      · have h10 : 10 ≤ g ∧ is m 3 (g - 10) = true := hg.resolve_left hp
        show andThen (if plain g = true then .error 9 else .ok ([ltr g], [98])) _ = _
        rw [if_neg hp]
        show andThen (rtk (List.map ltr [g]) (List.map ltr (g :: r)) 0) (fun r => rput c [ltr 2] r) = lmap (andThen (if 10 ≤ g then .ok (g, r) else .error 9) fun g => put 2 g.2)
        rw [rtk_take _ _ _ (by intro t ht; simp at ht; subst ht; exact hlt _ (by simp)) hlt, if_pos h10.1]
        unfold takeR
        rw [if_pos rfl]
        exact rput_one _ _ ⟨by omega, by omega⟩
  rw [rreck_plain ⟨o3, o24, o25, o31, o30, o32⟩]
  have o2 : c.op ≠ 24 ∧ c.op ≠ 25 := ⟨o24, o25⟩
  unfold needs reckS
  by_cases o1 : c.op = 1
  · rw [if_pos o1, if_pos o1]; exact rpush 1 _ o2
  rw [if_neg o1, if_neg o1]
  by_cases o1 : c.op = 2
  · rw [if_pos o1, if_pos o1]; exact rpush 2 _ o2
  rw [if_neg o1, if_neg o1, if_neg o3, if_neg o3]
  by_cases o1 : c.op = 4
  · rw [if_pos o1, if_pos o1]
    refine rtakes [localTy u c.a] _ ?_ hlt h300 o2
    intro t ht
    simp at ht
    subst ht
    have hr := hrg
    unfold ranged at hr
    rw [if_neg (by omega), if_pos (.inr o1)] at hr
    simp at hr
    unfold localTy
    have hlen : c.a.toNat < u.locals.length := by omega
    rw [List.getElem?_eq_getElem hlen]
    exact okt_lt hR.units (hty3 _ (List.getElem_mem hlen))
  rw [if_neg o1, if_neg o1]
  by_cases o1 : c.op = 5
  · rw [if_pos o1, if_pos o1]
    cases hs : k.st with
    | nil => rfl
    | cons x r =>
      rw [hs] at h300
      exact rput_none r (by simp at h300; omega) o2
  rw [if_neg o1, if_neg o1]
  by_cases o1 : c.op = 6
  · rw [if_pos o1, if_pos o1]; exact rturn 1 [1] _ (by simpa using l1) hlt o2
  rw [if_neg o1, if_neg o1]
  by_cases o1 : c.op = 7
  · rw [if_pos o1, if_pos o1]; exact rturn 2 [2] _ (by simpa using l2) hlt o2
  rw [if_neg o1, if_neg o1]
  by_cases o1 : 8 ≤ c.op ∧ c.op ≤ 12
  · rw [if_pos o1, if_pos o1]; exact rturn 1 [1, 1] _ (by simpa using l1) hlt o2
  rw [if_neg o1, if_neg o1]
  by_cases o1 : 15 ≤ c.op ∧ c.op ≤ 18
  · rw [if_pos o1, if_pos o1]; exact rturn 2 [1, 1] _ (by simpa using l1) hlt o2
  rw [if_neg o1, if_neg o1]
  by_cases o1 : c.op = 19 ∨ c.op = 20
  · rw [if_pos o1, if_pos o1]; exact rturn 2 [2, 2] _ (by simpa using l2) hlt o2
  rw [if_neg o1, if_neg o1]
  by_cases o1 : c.op = 13 ∨ c.op = 14
  · rw [if_pos o1, if_pos o1]
    match hs : k.st, hlt, h300 with
    | [], _, _ => rfl
    | [x], hlt, _ =>
      have hx := hlt x (by simp)
      show andThen (rtk [63, 63] [ltr x] 0) _ = lmap (andThen (popPlain [x]) fun p => turn 2 [p.1] p.2)
      show andThen (if (ltr x ≠ 110 ∧ ltr x ≠ 98) ∨ ((0 : UInt8) ≠ 0 ∧ (0 : UInt8) ≠ ltr x) then .error 9 else rtk [63] [] (ltr x)) _ = lmap (andThen (if plain x = true then .ok (x, []) else .error 9) fun p => turn 2 [p.1] p.2)
      by_cases hp : plain x = true
      · rw [if_pos hp, if_neg (by have := (plain_lt hx).1 hp; intro hh; rcases hh with hh | hh; exact this.elim hh.1 hh.2; exact hh.1 rfl)]
        rfl
      · rw [if_neg hp, if_pos (.inl ⟨fun e => hp ((plain_lt hx).2 (.inl e)), fun e => hp ((plain_lt hx).2 (.inr e))⟩)]
        rfl
    | x :: y :: r, hlt, hl3 =>
      have hx := hlt x (by simp)
      have hy := hlt y (by simp)
      show andThen (if (ltr x ≠ 110 ∧ ltr x ≠ 98) ∨ ((0 : UInt8) ≠ 0 ∧ (0 : UInt8) ≠ ltr x) then .error 9 else rtk [63] (ltr y :: r.map ltr) (ltr x)) _ = lmap (andThen (if plain x = true then .ok (x, y :: r) else .error 9) fun p => turn 2 [p.1] p.2)
      by_cases hp : plain x = true
      · have hpx := (plain_lt hx).1 hp
        rw [if_pos hp, if_neg (by intro hh; rcases hh with hh | hh; exact hpx.elim hh.1 hh.2; exact hh.1 rfl)]
        show andThen (if (ltr y ≠ 110 ∧ ltr y ≠ 98) ∨ (ltr x ≠ 0 ∧ ltr x ≠ ltr y) then .error 9 else rtk [] (r.map ltr) (ltr y)) _ = lmap (andThen (takeR [x] (y :: r)) (put 2))
        unfold takeR
        have hx0 : ltr x ≠ 0 := by rcases hpx with e | e <;> rw [e] <;> decide
        by_cases e : y = x
        · subst e
          rw [if_pos rfl, if_neg (by intro hh; rcases hh with hh | hh; exact hpx.elim hh.1 hh.2; exact hh.2 rfl)]
          exact rput_one 2 r o2
        · rw [if_neg e, if_pos (.inr ⟨hx0, fun e2 => e (ltr_inj hy hx e2.symm)⟩)]
          rfl
      · rw [if_neg hp, if_pos (.inl ⟨fun e => hp ((plain_lt hx).2 (.inl e)), fun e => hp ((plain_lt hx).2 (.inr e))⟩)]
        rfl
  rw [if_neg o1, if_neg o1]
  by_cases o1 : c.op = 28
  · rw [if_pos o1, if_pos o1]
    match hs : k.st, hlt, h300 with
    | [], _, _ => rfl
    | x :: r, hlt, hl3 =>
      have hx := hlt x (by simp)
      show andThen (if (ltr x ≠ 110 ∧ ltr x ≠ 98) ∨ ((0 : UInt8) ≠ 0 ∧ (0 : UInt8) ≠ ltr x) then .error 9 else rtk [] (r.map ltr) (ltr x)) _ = lmap (andThen (if plain x = true then .ok (x, r) else .error 9) fun p => .ok p.2)
      by_cases hp : plain x = true
      · have hpx := (plain_lt hx).1 hp
        rw [if_pos hp, if_neg (by intro hh; rcases hh with hh | hh; exact hpx.elim hh.1 hh.2; exact hh.1 rfl)]
        exact rput_none r (by simp at hl3; omega) o2
      · rw [if_neg hp, if_pos (.inl ⟨fun e => hp ((plain_lt hx).2 (.inl e)), fun e => hp ((plain_lt hx).2 (.inr e))⟩)]
        rfl
  rw [if_neg o1, if_neg o1]
  by_cases o1 : c.op = 22
  · rw [if_pos o1, if_pos o1]; exact rtakes [2] _ (by simpa using l2) hlt h300 o2
  rw [if_neg o1, if_neg o1]
  unfold speak
  have hpar : ∀ (kd : Int), is m kd c.a = true → ∀ t ∈ params m c.a, Lt t := by
    intro kd hk t ht
    obtain ⟨q, hq1, hq2, hq3⟩ := is_unit hk
    have ht3 := (typed_of (hR.heads q _ hq2).1).2.2
    unfold params at ht
    exact okt_lt hR.units (ht3 t (List.mem_of_mem_take ht))
  by_cases o1 : c.op = 23
  · rw [if_pos o1, if_pos o1]
    have hk : is m 2 c.a = true := by
      have hr := hrg
      unfold ranged at hr
      rw [if_neg (by omega), if_neg (by omega), if_neg (by omega), if_pos o1] at hr
      exact hr
    exact rturn _ _ _ (hpar 2 hk) hlt o2
  rw [if_neg o1, if_neg o1]
  by_cases o1 : c.op = 29
  · rw [if_pos o1, if_pos o1]
    have hk : is m 3 c.a = true := by
      have hr := hrg
      unfold ranged at hr
      rw [if_neg (by omega), if_neg (by omega), if_neg (by omega), if_neg (by omega), if_pos o1] at hr
      exact hr
    exact rturn _ _ _ (hpar 3 hk) hlt o2
  rw [if_neg o1, if_neg o1]
  have hbx : c.op = 26 ∨ c.op = 27 → Lt (boxTy m c.a) := by
    intro ho
    have hr := hrg
    unfold ranged at hr
    rw [if_neg (by omega), if_neg (by omega), if_neg (by omega), if_neg (by omega), if_neg (by omega), if_pos ho] at hr
    simp at hr
    have hlen : c.a.toNat < m.boxes.length := by omega
    unfold boxTy
    rw [List.getElem?_eq_getElem hlen]
    exact lt_plain (hR.boxes _ _ (List.getElem?_eq_getElem hlen))
  by_cases o1 : c.op = 26
  · rw [if_pos o1, if_pos o1]; exact rtakes [boxTy m c.a] _ (by intro t ht; simp at ht; subst ht; exact hbx (.inl o1)) hlt h300 o2
  rw [if_neg o1, if_neg o1]
  by_cases o1 : c.op = 27
  · rw [if_pos o1, if_pos o1]; exact rpush _ _ o2
  rw [if_neg o1, if_neg o1, if_neg o31, if_neg o24]
  rw [if_neg o30, if_neg o32, if_neg o31, if_neg o24, if_neg o25]
  exact rput_none _ h300 o2
end Vf
end Go.Proofs.Ytbkimpimoclobaa

