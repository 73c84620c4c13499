/- The walk of ImageTurns. -/
import Derived.Test.YtnfkfgpnojdfoaaIm19
import Derived.Test.YtnfkfgpnojdfoaaIm21
namespace Go.Proofs.Ytnfkfgpnojdfoaa
open Go.RowKit

theorem Im.parse_sealed {m : Im.Md} (h : Im.MdR m) (hl : (Im.body m).length ≤ 59998) : Im.parse (Im.sealed (Im.body m)) = (some m, 0) := by
  unfold Im.sealed
  have hs := Im.sum_lt (Im.body m)
  rw [Im.parse_fit _ _ _ (by omega), if_neg (by omega), Im.rmod_body h]
theorem Im.sealed_parse {l : List Nat} {r : Option Im.Md} (hok : Im.Ok l) (h : Im.parse l = (r, 0)) : ∃ m, r = some m ∧ Im.bytes m = (l, 0) ∧ Im.MdR m := by
  by_cases h1 : 60000 < l.length
  · unfold Im.parse at h
    rw [if_pos h1] at h
    exact absurd (Prod.mk.inj h).2 (by decide)
  by_cases h2 : l.length < 2
  · unfold Im.parse at h
    rw [if_neg h1, if_pos h2] at h
    exact absurd (Prod.mk.inj h).2 (by decide)
  obtain ⟨p, x, y, rfl⟩ := Im.last2 (l := l) (by omega)
  simp only [List.length_append, List.length_cons, List.length_nil] at h1 h2
  rw [Im.parse_fit p x y (by omega)] at h
  split at h
  · exact absurd (Prod.mk.inj h).2 (by decide)
  rename_i h3
  have hs : Im.sum p = x * 256 + y := by omega
  have hx : x < 256 := hok x (by simp)
  have hy : y < 256 := hok y (by simp)
  cases hm : Im.rmod p with
  | none => rw [hm] at h; exact absurd (Prod.mk.inj h).2 (by decide)
  | some m =>
    rw [hm] at h
    obtain ⟨e1, e2⟩ := Im.body_rmod (fun c hc => hok c (by simp [hc])) hm
    refine ⟨m, (Prod.mk.inj h).1.symm, ?_, e2⟩
    unfold Im.bytes
    rw [e1, if_pos (by omega)]
    unfold Im.sealed
    rw [hs, show (x * 256 + y) / 256 = x by omega, show (x * 256 + y) % 256 = y by omega]

theorem ModIn.range {B : Nat} {w : World} {m : Im.Md} {ab au : Option Addr} (h : ModIn B w m ab au) : Im.MdR m := by
  refine ⟨fun x hx => ?_, fun u hu => ?_, h.few⟩
  · obtain ⟨i, hi⟩ := List.mem_iff_getElem?.1 hx
    obtain ⟨h1, h2, _⟩ := h.boxes i x hi
    exact ⟨h1, h2⟩
  · obtain ⟨i, hi⟩ := List.mem_iff_getElem?.1 hu
    obtain ⟨b, off, al, cl, ac, cc, _, _, hU, _⟩ := h.units i u hi
    obtain ⟨h1, h2, h3, h4⟩ := hU.nums
    refine ⟨⟨h1, h2⟩, ⟨h3, h4⟩, fun x hx => ?_, fun x hx => ?_, hU.few⟩
    · obtain ⟨j, hj⟩ := List.mem_iff_getElem?.1 hx
      exact (hU.locals j x hj).1
    · obtain ⟨j, hj⟩ := List.mem_iff_getElem?.1 hx
      obtain ⟨i1, i2, i3, _⟩ := hU.code j x hj
      exact ⟨i1, i2, i3⟩

theorem flat_get {α : Type} (f : α → List Value) (n : Nat) (hf : ∀ x, (f x).length = n) : ∀ (l : List α) (i : Nat) (x : α), l[i]? = some x → ∀ j, j < n → (l.flatMap f)[i * n + j]? = (f x)[j]?
  | [], i, x, h, _, _ => by simp at h
  | y :: l, 0, x, h, j, hj => by
    simp at h; subst h
    rw [List.flatMap_cons, Nat.zero_mul, Nat.zero_add, List.getElem?_append_left (by rw [hf]; exact hj)]
  | y :: l, i + 1, x, h, j, hj => by
    have ih := flat_get f n hf l i x (by simpa using h) j hj
    rw [List.flatMap_cons, List.getElem?_append_right (by rw [hf, Nat.succ_mul]; omega), hf, ← ih]
    congr 1
    rw [Nat.succ_mul]
    omega
/-- A row of one's own, to be read. -/
theorem own_at {α : Type} {w : World} {B e sz n : Nat} {a : Option Addr} {c : Nat} {f : α → List Value} {l : List α} (hf : ∀ x, (f x).length = sz) (_ : 0 < sz) (h : w.ownsRow B e sz (.slice a l.length c) n (l.flatMap f)) :
    ∀ i x, l[i]? = some x → ∃ b, a = some ⟨b, 0, none⟩ ∧ b < w.heap.size ∧ ∀ j, j < sz → w.cell? ⟨b, 0 + i * sz + j, none⟩ = (f x)[j]? := by
  intro i x hx
  have hi := (List.getElem?_eq_some_iff.1 hx).1
  rcases h.2 with ⟨hv, hn⟩ | ⟨g, cap, cur, hv, hg, hh, h1, h2, h3, h4⟩
  · simp at hv
    rw [hv.2.1] at hx
    simp at hx
  · simp at hv
    obtain ⟨rfl, _, _⟩ := hv
    refine ⟨g, rfl, lt_of_block hh, fun j hj => ?_⟩
    have e := flat_get f sz hf l i x hx j hj
    rw [← h4, List.getElem?_take] at e
    split at e
    · rw [← e]
      simp [World.cell?, hh]
    · exfalso
      have : (f x)[j]? ≠ none := by rw [List.getElem?_eq_getElem (by rw [hf]; exact hj)]; simp
      exact this e.symm

/-- A module of one's own, to be read. -/
theorem MdT.modIn {B : Nat} {W : World} {m : Im.Md} {ab au : Option Addr} {cb cu : Nat} (h : MdT B W m ab au cb cu) (hR : Im.MdR m) : ModIn W.heap.size W m ab au := by
  refine ⟨hR.n, fun i x hx => ?_, fun i u hu => ?_⟩
  · obtain ⟨b, e, hb, hc⟩ := own_at (f := boxc) (sz := 2) (fun _ => rfl) (by decide) h.boxes i x hx
    obtain ⟨r1, r2⟩ := hR.b x (List.mem_of_getElem? hx)
    exact ⟨r1, r2, b, 0, e, .inl hb, hc 0 (by decide), hc 1 (by decide)⟩
  · obtain ⟨us, h1, h2, h3⟩ := h.units
    rw [← h1, List.getElem?_map] at hu
    obtain ⟨y, hy, rfl⟩ := Option.map_eq_some_iff.1 hu
    have hul : m.units.length = us.length := by rw [← h1]; simp
    rw [hul] at h2
    obtain ⟨b, e, hb, hc⟩ := own_at (f := urc) (sz := 6) (fun _ => rfl) (by decide) h2 i y hy
    have hR' := hR.u y.u (by rw [← h1]; exact List.mem_map_of_mem (List.mem_of_getElem? hy))
    have hI := h3 y (List.mem_of_getElem? hy)
    refine ⟨b, 0, y.al, y.cl, y.ac, y.cc, e, .inl hb, ⟨⟨hR'.a.1, hR'.a.2, hR'.b.1, hR'.b.2⟩, hR'.n, fun j z hz => ?_, fun j z hz => ?_⟩, hc 0 (by decide), hc 1 (by decide), hc 2 (by decide), hc 3 (by decide), hc 4 (by decide), hc 5 (by decide)⟩
    · obtain ⟨b2, e2, hb2, hc2⟩ := own_at (f := intc) (sz := 1) (fun _ => rfl) (by decide) hI.l j z hz
      refine ⟨hR'.l z (List.mem_of_getElem? hz), b2, 0, e2, .inl hb2, ?_⟩
      have := hc2 0 (by decide)
      rw [Nat.mul_one] at this
      exact this
    · obtain ⟨b2, e2, hb2, hc2⟩ := own_at (f := insc) (sz := 3) (fun _ => rfl) (by decide) hI.c j z hz
      obtain ⟨r1, r2, r3⟩ := hR'.c z (List.mem_of_getElem? hz)
      exact ⟨r1, r2, r3, b2, 0, e2, .inl hb2, hc2 0 (by decide), hc2 1 (by decide), hc2 2 (by decide)⟩

theorem BIn.on {w w' : World} {l : List Nat} {a : Option Addr} (h : BIn w l a) (hb : Below w.heap.size w w') : BIn w' l a := by
  intro i c hc
  have hl : 0 < l.length := by have := (List.getElem?_eq_some_iff.1 hc).1; omega
  obtain ⟨b, off, e, hlt⟩ := h.lt hl
  exact h.far (fun b' off' e' => by rw [e] at e'; simp at e'; rw [← e'.1]; exact hb.block _ hlt) i c hc
theorem BIn.ok {w : World} {l : List Nat} {a : Option Addr} (h : BIn w l a) : Im.Ok l := fun c hc => by
  obtain ⟨i, hi⟩ := List.mem_iff_getElem?.1 hc
  exact (h i c hi).1
theorem own_cap {w : World} {B e n : Nat} {a : Option Addr} {c len : Nat} {xs : List Value} (h : w.ownsRow B e 1 (.slice a len c) n xs) : len ≤ c := by
  rcases h.2 with ⟨hv, _⟩ | ⟨g, cap, cur, hv, _, _, h1, _⟩
  · simp at hv; omega
  · simp at hv; omega

theorem own_both {w : World} {B n : Nat} {v : Value} {xs : List Nat} (h : w.ownsRow B 5 1 v n (bts xs)) (hx : ∀ c ∈ xs, c < 256) : ∃ a c, v = .slice a xs.length c ∧ BIn w xs a ∧ xs.length ≤ c := by
  obtain ⟨a, c, rfl, hb⟩ := own_bin h hx
  exact ⟨a, c, rfl, hb, own_cap h⟩


set_option maxRecDepth 100000 in
set_option maxHeartbeats 4000000 in
theorem turns_any (m : Im.Md) (ab au : Option Addr) (cb cu : Nat) (bl : List Nat) (a : Option Addr) (c : Nat) (w : World) (hin : Hid (ModIn w.heap.size w m ab au)) (hbl : Hid (BIn w bl a)) (hbc : bl.length ≤ c) (hbn : bl.length ≤ 9223372036854775807) :
    Calls Try.prog 4 #[.agg #[.slice ab m.boxes.length cb, .slice au m.units.length cu], .slice a bl.length c] w fun e w' => e = .returned (.bool true) ∧ Below w.heap.size w w' := by
  obtain ⟨r2, er2, hp2⟩ : ∃ r er, Im.parse bl = (r, er) := ⟨_, _, rfl⟩
  have HP2 := hide hp2
  clear hp2
  have HMR := hide hin.out.range
  go_enter Try.func4, Try.ntmps4
  go_wp2_with fail
  refine (alive_any _).mono ?_
  rintro e w1 ⟨rfl, hb1⟩
  have HB1 : Hid (Below w.heap.size w w1) := ((Below.refl _ w).alloc (Nat.le_refl _) _).trans (hb1.mono (by simp))
  have hN : w1.heap[w.heap.size]? = some (mdO m ab au cb cu) := (hb1.block _ (by simp)).trans (heap_alloc_new w _)
  have HNN := hide hN
  obtain ⟨c0, c1⟩ := md_cells hN
  have hsz := HB1.out.size
  have HIN : Hid (ModIn w1.heap.size w1 m ab au) := hin.out.on (Nat.le_refl _) HB1.out
  clear hb1 hN
  obtain ⟨out, er, hout⟩ : ∃ out er, Im.bytes m = (out, er) := ⟨_, _, rfl⟩
  have HO := hide hout
  clear hout
  go_wp2_with fail
  refine (bytes_any m ab au cb cu _ HIN out er HO).mono ?_
  clear c0 c1
  rintro e w2 ⟨v, rfl, hown, hb2⟩
  have HB2 : Hid (Below w.heap.size w w2) := HB1.out.trans (hb2.mono hsz)
  have HN2 : Hid (w2.heap[w.heap.size]? = some (mdO m ab au cb cu)) := (hb2.block _ (lt_of_block HNN.out)).trans HNN.out
  by_cases h0 : er = 0
  · subst h0
    have hbd : out = Im.sealed (Im.body m) ∧ (Im.body m).length ≤ 59998 := by
      have := HO.out
      unfold Im.bytes at this
      split at this
      · rename_i h; exact ⟨(Prod.mk.inj this).1.symm, h⟩
      · exact absurd (Prod.mk.inj this).2 (by decide)
    have hok : ∀ c ∈ out, c < 256 := by rw [hbd.1]; exact Im.sealed_lt (Im.body_lt m)
    obtain ⟨av, cv, rfl, hbin, hcap⟩ := own_both hown hok
    have HP : Hid (Im.parse out = (some m, 0)) := by rw [hbd.1]; exact Im.parse_sealed HMR.out hbd.2
    have HBI := hide hbin
    clear hown hb2 hbd hok hbin HO HNN HB1 HIN
    go_wp2_with fail
    refine (parse_any out av cv _ HBI hcap (some m) 0 HP).mono ?_
    rintro e w3 ⟨ab', cb', au', cu', rfl, hT, hb3⟩
    have hT' : MdT _ w3 m ab' au' cb' cu' := hT
    have HB3 : Hid (Below w.heap.size w w3) := HB2.out.trans (hb3.mono HB2.out.size)
    have hs3 := HB3.out.size
    have hN3 : w3.heap[w.heap.size]? = some (mdO m ab au cb cu) := (hb3.block _ (lt_of_block HN2.out)).trans HN2.out
    have hlt3 := lt_of_block hN3
    obtain ⟨c0, c1⟩ := md_cells hN3
    have HB4 : Hid (Below w.heap.size w (w3.alloc (mdO m ab' au' cb' cu'))) := HB3.out.alloc hs3 _
    have HI1 := hide (hin.out.on (Nat.le_refl _) HB4.out)
    have HI2 := hide ((hT'.modIn HMR.out).on (Nat.le_refl _) ((Below.refl _ w3).alloc (Nat.le_refl _) (mdO m ab' au' cb' cu')))
    clear hT hT' hb3 hN3 HBI HP hin HN2 HB2
    go_wp2_with fail
    refine (same_any m ab au ab' au' cb cu cb' cu' _ HI1 HI2).mono ?_
    rintro e w4 ⟨rfl, hb4⟩
    have HBx : Hid (Below w.heap.size w w4) := HB4.out.trans (hb4.mono HB4.out.size)
    clear hb4 HI1 HI2 HB4 HB3 c0 c1
    go_wp2_with fail
    refine (parse_any bl a c _ (hide (hbl.out.on HBx.out)) hbc r2 er2 HP2).mono ?_
    rintro e w5 ⟨ab2, cb2, au2, cu2, rfl, hT2, hb5⟩
    have HB5 : Hid (Below w.heap.size w w5) := HBx.out.trans (hb5.mono HBx.out.size)
    have hs5 := HB5.out.size
    clear hb5
    by_cases h0 : er2 = 0
    · subst h0
      obtain ⟨m2, rfl, hby, hR2⟩ := Im.sealed_parse hbl.out.ok HP2.out
      have hT2' : MdT _ w5 m2 ab2 au2 cb2 cu2 := hT2
      have HIN2 := hide ((hT2'.modIn hR2).on (Nat.le_refl _) ((Below.refl _ w5).alloc (Nat.le_refl _) (.cells #[.slice ab2 m2.boxes.length cb2, .slice au2 m2.units.length cu2] 25)))
      have HBY := hide hby
      have HB6 : Hid (Below w.heap.size w (w5.alloc (.cells #[.slice ab2 m2.boxes.length cb2, .slice au2 m2.units.length cu2] 25))) := HB5.out.alloc hs5 _
      clear hT2 hT2' hR2 hby HP2
      go_wp2_with fail
      refine (bytes_any m2 ab2 au2 cb2 cu2 _ HIN2 bl 0 HBY).mono ?_
      rintro e w7 ⟨v7, rfl, hown7, hb7⟩
      have HB7 : Hid (Below w.heap.size w w7) := HB6.out.trans (hb7.mono HB6.out.size)
      obtain ⟨a7, c7, rfl, hbin7⟩ := own_bin hown7 hbl.out.ok
      have HBI7 := hide hbin7
      clear hown7 hb7 hbin7 HIN2
      go_wp2_with fail
      refine (sameBytes_any bl a7 a c7 c _ HBI7 (hide (hbl.out.on HB7.out)) hbn).mono ?_
      rintro e w8 ⟨rfl, d, rfl⟩
      go_wp2
      go_ret
      exact ⟨rfl, below_drewN' HB7.out _⟩
    · have e2 : (er2 != 0) = true := by simpa using h0
      clear h0 hT2
      go_wp2
      go_ret
      exact ⟨rfl, HB5.out.alloc hs5 _⟩
  · have e0 : (er == 0) = false := by simpa using h0
    have HBx := HB2
    clear h0 hown hb2 HIN HO hin HNN HB1 HN2
    go_wp2_with fail
    refine (parse_any bl a c _ (hide (hbl.out.on HBx.out)) hbc r2 er2 HP2).mono ?_
    rintro e w5 ⟨ab2, cb2, au2, cu2, rfl, hT2, hb5⟩
    have HB5 : Hid (Below w.heap.size w w5) := HBx.out.trans (hb5.mono HBx.out.size)
    have hs5 := HB5.out.size
    clear hb5
    by_cases h0 : er2 = 0
    · subst h0
      obtain ⟨m2, rfl, hby, hR2⟩ := Im.sealed_parse hbl.out.ok HP2.out
      have hT2' : MdT _ w5 m2 ab2 au2 cb2 cu2 := hT2
      have HIN2 := hide ((hT2'.modIn hR2).on (Nat.le_refl _) ((Below.refl _ w5).alloc (Nat.le_refl _) (.cells #[.slice ab2 m2.boxes.length cb2, .slice au2 m2.units.length cu2] 25)))
      have HBY := hide hby
      have HB6 : Hid (Below w.heap.size w (w5.alloc (.cells #[.slice ab2 m2.boxes.length cb2, .slice au2 m2.units.length cu2] 25))) := HB5.out.alloc hs5 _
      clear hT2 hT2' hR2 hby HP2
      go_wp2_with fail
      refine (bytes_any m2 ab2 au2 cb2 cu2 _ HIN2 bl 0 HBY).mono ?_
      rintro e w7 ⟨v7, rfl, hown7, hb7⟩
      have HB7 : Hid (Below w.heap.size w w7) := HB6.out.trans (hb7.mono HB6.out.size)
      obtain ⟨a7, c7, rfl, hbin7⟩ := own_bin hown7 hbl.out.ok
      have HBI7 := hide hbin7
      clear hown7 hb7 hbin7 HIN2
      go_wp2_with fail
      refine (sameBytes_any bl a7 a c7 c _ HBI7 (hide (hbl.out.on HB7.out)) hbn).mono ?_
      rintro e w8 ⟨rfl, d, rfl⟩
      go_wp2
      go_ret
      exact ⟨rfl, below_drewN' HB7.out _⟩
    · have e2 : (er2 != 0) = true := by simpa using h0
      clear h0 hT2
      go_wp2
      go_ret
      exact ⟨rfl, HB5.out.alloc hs5 _⟩

end Go.Proofs.Ytnfkfgpnojdfoaa
