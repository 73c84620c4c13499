/- The walks of opt.copied. -/
import Derived.Test.YtlbihbfgglnfnaaM31
import Derived.Test.YtlbihbfgglnfnaaM32
namespace Go.Proofs.Ytlbihbfgglnfnaa.Ow
open Go.RowKit Vf Vm Ot

theorem info_partsO {P : Program} {e : TypeId} {z : Value} {s b : Nat} (h : (P.info? e).map (fun i => (i.zero, i.size, i.bytes)) = some (some z, s, b)) : ∃ i, P.info? e = some i ∧ i.zero = some z ∧ i.size = s ∧ i.bytes = b := by
  obtain ⟨i, hi, h⟩ := Option.map_eq_some_iff.1 h
  simp only [Prod.mk.injEq] at h
  exact ⟨i, hi, h.1, h.2.1, h.2.2⟩
theorem Try.infointO : (Try.prog.info? 3).map (fun i => (i.zero, i.size, i.bytes)) = some (some (.int .i64 0), 1, 8) := by kernel_rfl
theorem own_nil (w : World) (B : Nat) (e : TypeId) (size : Nat) : w.ownsRow B e size (.slice none 0 0) 0 [] := ⟨by simp, .inl ⟨rfl, rfl⟩⟩
theorem grown_none {w w' : World} (h : w.grownBy w' (Value.slice none 0 0).ownBlock) : Below w.heap.size w w' := ⟨h.os, h.tape, h.output, h.size, fun k hk => h.block k hk (by simp [Value.ownBlock])⟩
abbrev ints (l : List Int) : List Value := l.map (Value.int .i64)
theorem ints_news {B : Nat} {w : World} {l : List Int} {a : Option Addr} (h : IntsIn B w l a) : ∀ ad, a = some ad → ∀ j v, (ints l)[j]? = some v → w.cell? (ad.add j) = some v := by
  intro ad ha j v hv
  rw [List.getElem?_map] at hv
  obtain ⟨x, hx, rfl⟩ := Option.map_eq_some_iff.1 hv
  obtain ⟨_, b, off, e, _, c0⟩ := h j x hx
  rw [ha] at e
  cases e
  rw [add_at]
  exact c0
theorem ints_oneO (l : List Int) : ∀ v ∈ ints l, v.oneCell' = true := by
  intro v hv
  obtain ⟨x, _, rfl⟩ := List.mem_map.1 hv
  rfl
theorem none_ints {B : Nat} {w : World} {l : List Int} {a : Option Addr} (h : IntsIn B w l a) : a = none → l.length = 0 := fun e => by
  cases l with
  | nil => rfl
  | cons x l =>
    obtain ⟨_, b, off, e', _⟩ := h 0 x rfl
    rw [e] at e'
    cases e'
theorem none_boxes {B : Nat} {w : World} {l : List Bx} {a : Option Addr} (h : BoxesIn B w l a) : a = none → l.length = 0 := fun e => by
  cases l with
  | nil => rfl
  | cons x l =>
    obtain ⟨_, _, b, off, e', _⟩ := h 0 x rfl
    rw [e] at e'
    cases e'
theorem none_code {B : Nat} {w : World} {l : List Ins} {a : Option Addr} (h : CodeIn B w l a) : a = none → l.length = 0 := fun e => by
  cases l with
  | nil => rfl
  | cons x l =>
    obtain ⟨_, _, _, b, off, e', _⟩ := h 0 x rfl
    rw [e] at e'
    cases e'

theorem code_addr {B : Nat} {w : World} {l : List Ins} {ad : Addr} (h : CodeIn B w l (some ad)) (hl : 0 < l.length) : ∃ b off, ad = ⟨b, off, none⟩ := by
  obtain ⟨_, _, _, b, off, e, _⟩ := h 0 l[0] (List.getElem?_eq_getElem hl)
  cases e
  exact ⟨b, off, rfl⟩
/-- What an own row is. -/
theorem own_out {w : World} {B n size : Nat} {e : TypeId} {v : Value} {xs : List Value} (h : w.ownsRow B e size v n xs) : ∃ a' c', v = .slice a' n c' ∧ n ≤ c' ∧ (0 < n → ∃ g, ∃ cur : List Value, a' = some ⟨g, 0, none⟩ ∧ B ≤ g ∧ w.heap[g]? = some (.cells (List.toArray cur) e (0, 0)) ∧ cur.take (n * size) = xs ∧ cur.length = c' * size ∧ c' ≤ maxLen) := by
  rcases h.2 with ⟨rfl, rfl⟩ | ⟨g, cap, cur, rfl, hg, hh, h1, h2, h3, h4⟩
  · exact ⟨none, 0, rfl, Nat.le_refl _, fun h => by omega⟩
  · exact ⟨some ⟨g, 0, none⟩, cap, rfl, h1, fun _ => ⟨g, cur.toList, rfl, hg, hh, h4, by simpa using h3, h2⟩⟩
theorem ints_row {w : World} {g : Nat} {cur : List Value} {l : List Int} (hb : w.heap[g]? = some (.cells (List.toArray cur) 3 (0, 0))) (ht : cur.take (l.length * 1) = ints l) (hI : ∀ x ∈ l, I64 x) : IntsIn w.heap.size w l (some ⟨g, 0, none⟩) := by
  intro i x hx
  have hi := (List.getElem?_eq_some_iff.1 hx).1
  refine ⟨hI x (List.mem_of_getElem? hx), g, 0, rfl, lt_of_block hb, ?_⟩
  have : (cur.take (l.length * 1))[i]? = some (.int .i64 x) := by rw [ht]; simp [hx]
  rw [List.getElem?_take, if_pos (by omega)] at this
  simp [World.cell?, hb, this]
theorem ints_i64 {B : Nat} {w : World} {l : List Int} {a : Option Addr} (h : IntsIn B w l a) : ∀ x ∈ l, I64 x := fun x hx => by
  obtain ⟨i, hi⟩ := List.getElem?_of_mem hx
  exact (h i x hi).1
theorem boxes_i64 {B : Nat} {w : World} {l : List Bx} {a : Option Addr} (h : BoxesIn B w l a) : ∀ x ∈ l, I64 x.ty ∧ I64 x.cap := fun x hx => by
  obtain ⟨i, hi⟩ := List.getElem?_of_mem hx
  exact ⟨(h i x hi).1, (h i x hi).2.1⟩

/-- A row of numbers, or of instructions. -/
def Rowed (w : World) (a : Option Addr) : Prop := ∀ ad, a = some ad → ∃ cs t, w.heap[ad.block]? = some (.cells cs t (0, 0)) ∧ (t = 3 ∨ t = 41)
theorem own_ty {w : World} {B n size c : Nat} {e : TypeId} {a : Option Addr} {xs : List Value} (h : w.ownsRow B e size (.slice a n c) n xs) : ∀ ad, a = some ad → ∃ cs, w.heap[ad.block]? = some (.cells cs e (0, 0)) := fun ad ha => by
  rcases h.2 with ⟨h1, _⟩ | ⟨g, cap, cur, h1, _, hh, _⟩
  · cases h1; cases ha
  · cases h1
    cases ha
    exact ⟨cur, hh⟩
theorem Rowed.on {w w' : World} {a : Option Addr} (h : Rowed w a) (hb : Below w.heap.size w w') : Rowed w' a := fun ad ha => by
  obtain ⟨cs, t, h1, h2⟩ := h ad ha
  exact ⟨cs, t, (hb.block _ (lt_of_block h1)).trans h1, h2⟩

set_option maxHeartbeats 1000000 in
theorem copied_ints (B : Nat) (l : List Int) (a : Option Addr) (c : Nat) (w : World) (h : Hid (IntsIn B w l a)) (hl : l.length ≤ 4000) :
    Calls Try.prog 12 #[.slice a l.length c] w fun e w' => ∃ a' c', e = .returned (.slice a' l.length c') ∧ l.length ≤ c' ∧ IntsIn w'.heap.size w' l a' ∧ Rowed w' a' ∧ Below w.heap.size w w' := by
  obtain ⟨i0, hi, hz0, hz1, hz2⟩ := info_partsO Try.infointO
  obtain ⟨n, hn⟩ : ∃ n, n = l.length := ⟨_, rfl⟩
  rw [← hn]
  have HN := hide hn
  have hn2 : n ≤ 4000 := by omega
  clear hn
  go_enter Try.func12, Try.ntmps12
  go_wp2_with (at_builtin; refine wpList_append_src rfl _ _ 35 rfl w.heap.size 3 i0 (.int .i64 0) 1 8 Try.underlying35 hi hz0 hz1 hz2 rfl (by decide) _ _ _ rfl (own_nil w _ _ _) a n c (ints l) rfl (fun e => by rw [HN.out]; exact none_ints h.out e) (by rw [HN.out]; simp) (ints_news h.out) (ints_oneO l) (by unfold maxLen; omega) (by omega) (Nat.le_refl _) ?_; intro v w' hown hgr)
  obtain ⟨a', c', hv, hc, hr⟩ := own_out hown
  rw [Nat.zero_add] at hv hc hr
  have HE : Hid (n ≤ c' ∧ IntsIn w'.heap.size w' l a' ∧ Rowed w' a' ∧ Below w.heap.size w w') := by
    refine ⟨hc, ?_, fun ad ha => ?_, grown_none hgr⟩
    rotate_left
    · rw [hv, Nat.zero_add] at hown
      obtain ⟨cs, hcs⟩ := own_ty hown ad ha
      exact ⟨cs, _, hcs, .inl rfl⟩
    by_cases h0 : 0 < n
    · obtain ⟨g, cur, rfl, _, hh, ht, _⟩ := hr h0
      exact ints_row hh (by rw [← HN.out]; simpa using ht) (ints_i64 h.out)
    · have : l = [] := List.eq_nil_of_length_eq_zero (by rw [← HN.out]; omega)
      rw [this]
      exact fun i x hx => by simp at hx
  subst hv
  clear hown hgr hr hc
  go_ret
  exact ⟨_, _, rfl, HE.out⟩
set_option maxHeartbeats 1000000 in
theorem copied_boxes (B : Nat) (l : List Bx) (a : Option Addr) (c : Nat) (w : World) (h : Hid (BoxesIn B w l a)) (hl : l.length ≤ 4000) :
    Calls Try.prog 11 #[.slice a l.length c] w fun e w' => ∃ a' c', e = .returned (.slice a' l.length c') ∧ BoxesIn w'.heap.size w' l a' ∧ (∀ ad, a' = some ad → ∃ cs, w'.heap[ad.block]? = some (.cells cs 44 (0, 0))) ∧ Below w.heap.size w w' := by
  obtain ⟨i0, hi, hz0, hz1, hz2⟩ := info_partsO Try.infoboxi
  obtain ⟨n, hn⟩ : ∃ n, n = l.length := ⟨_, rfl⟩
  rw [← hn]
  have HN := hide hn
  have hn2 : n ≤ 4000 := by omega
  clear hn
  go_enter Try.func11, Try.ntmps11
  go_wp2_with (at_builtin; refine wpList_append_src rfl _ _ 22 rfl w.heap.size 44 i0 (.agg #[.int .i64 0, .int .i64 0]) 2 16 Try.underlying22 hi hz0 hz1 hz2 rfl (by decide) _ _ _ rfl (own_nil w _ _ _) a n c (l.flatMap bxC) rfl (fun e => by rw [HN.out]; exact none_boxes h.out e) (by rw [HN.out]; exact fm_len bxC 2 (fun _ => rfl) l) (boxes_news h.out) (bx_one l) (by unfold maxLen; omega) (by omega) (Nat.le_refl _) ?_; intro v w' hown hgr)
  obtain ⟨a', c', hv, hc, hr⟩ := own_out hown
  rw [Nat.zero_add] at hv hc hr
  have HE : Hid (BoxesIn w'.heap.size w' l a' ∧ (∀ ad, a' = some ad → ∃ cs, w'.heap[ad.block]? = some (.cells cs 44 (0, 0))) ∧ Below w.heap.size w w') := by
    refine ⟨?_, fun ad ha => ?_, grown_none hgr⟩
    rotate_left
    · rw [hv, Nat.zero_add] at hown
      exact own_ty hown ad ha
    by_cases h0 : 0 < n
    · obtain ⟨g, cur, rfl, _, hh, ht, _⟩ := hr h0
      exact boxes_row hh (by rw [← HN.out]; simpa using ht) (boxes_i64 h.out)
    · have : l = [] := List.eq_nil_of_length_eq_zero (by rw [← HN.out]; omega)
      rw [this]
      exact fun i x hx => by simp at hx
  subst hv
  clear hown hgr hr hc
  go_ret
  exact ⟨_, _, rfl, HE.out⟩
set_option maxHeartbeats 1000000 in
theorem copied_code (B : Nat) (l : List Ins) (a : Option Addr) (c : Nat) (w : World) (h : Hid (CodeIn B w l a)) (hl0 : 0 < l.length) (hl : l.length ≤ 4000) :
    Calls Try.prog 33 #[.slice a l.length c] w fun e w' => ∃ g c', e = .returned (.slice (some ⟨g, 0, none⟩) l.length c') ∧ l.length ≤ c' ∧ c' ≤ 9223372036854775807 ∧ w.heap.size ≤ g ∧ CodeIn w'.heap.size w' l (some ⟨g, 0, none⟩) ∧ Blk w' g 41 (c' * 3) ∧ Below w.heap.size w w' := by
  obtain ⟨i0, hi, hz0, hz1, hz2⟩ := info_partsO Try.infoinstr
  obtain ⟨n, hn⟩ : ∃ n, n = l.length := ⟨_, rfl⟩
  rw [← hn]
  have HN := hide hn
  have hn2 : n ≤ 4000 := by omega
  have hn3 : 0 < n := by omega
  clear hn
  go_enter Try.func33, Try.ntmps33
  go_wp2_with (at_builtin; refine wpList_append_src rfl _ _ 36 rfl w.heap.size 41 i0 (.agg #[.int .i64 0, .int .i64 0, .int .i64 0]) 3 24 Try.underlying36 hi hz0 hz1 hz2 rfl (by decide) _ _ _ rfl (own_nil w _ _ _) a n c (l.flatMap inC) rfl (fun e => by rw [HN.out]; exact none_code h.out e) (by rw [HN.out]; exact fm_len inC 3 (fun _ => rfl) l) (fun ad e => by subst e; obtain ⟨b, off, rfl⟩ := code_addr h.out hl0; exact code_news h.out) (in_one l) (by unfold maxLen; omega) (by omega) (Nat.le_refl _) ?_; intro v w' hown hgr)
  obtain ⟨a', c', hv, hc, hr⟩ := own_out hown
  rw [Nat.zero_add] at hv hc hr
  obtain ⟨g, cur, rfl, hg, hh, ht, hcl, hcm⟩ := hr hn3
  have HE : Hid (n ≤ c' ∧ c' ≤ 9223372036854775807 ∧ w.heap.size ≤ g ∧ CodeIn w'.heap.size w' l (some ⟨g, 0, none⟩) ∧ Blk w' g 41 (c' * 3) ∧ Below w.heap.size w w') :=
    ⟨hc, by unfold maxLen at hcm; omega, hg, code_row hh (by rw [← HN.out]; simpa using ht) (code_is64 h.out), ⟨_, hh, by simpa using hcl⟩, grown_none hgr⟩
  subst hv
  clear hown hgr hr hc hh ht hcl hcm hg
  go_ret
  exact ⟨_, _, rfl, HE.out⟩
end Go.Proofs.Ytlbihbfgglnfnaa.Ow

