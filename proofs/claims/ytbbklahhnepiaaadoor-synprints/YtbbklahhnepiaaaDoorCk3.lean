/- The walks of the checker's valueType, params, kidsOf. -/
import Derived.Test.YtbbklahhnepiaaaDoorCk2
namespace Go.Proofs.YtbbklahhnepiaaaDoor
open Go.RowKit

theorem Calls.ok0 {f : FuncId} {a : Array Value} {w : World} {num er : Int} (h : Calls Tryd.prog f a w (fun e w' => Fate0 num er w e w')) (h0 : er = 0) :
    Calls Tryd.prog f a w fun e w' => e = .returned (.tuple #[]) ∧ w.grownBy w' none := h.mono (fun _ _ hf => ⟨fate0_not hf h0, hf.1⟩)
theorem Calls.bad0 {f : FuncId} {a : Array Value} {w : World} {num er : Int} (k : Int) (h : Calls Tryd.prog f a w (fun e w' => Fate0 num er w e w')) (h0 : er = k) (hk : k ≠ 0) :
    Calls Tryd.prog f a w fun e w' => e = .panicked [fltE k num] ∧ w.grownBy w' none := h.mono (fun _ _ hf => ⟨by rw [fate0_err hf (by omega), h0], hf.1⟩)

theorem box_in {w w1 : World} {o : Obj} {r : Option Nat} (hg : (w.alloc o).grownBy w1 r) (hr : r ≠ some w.heap.size) : w1.heap[w.heap.size]? = some o :=
  (hg.block _ (by simp) (fun e => hr e.symm)).trans (heap_alloc_new w o)
theorem box_on {w1 w2 : World} {o : Obj} {r : Option Nat} {b : Nat} (h : w1.heap[b]? = some o) (hg : w1.grownBy w2 r) (hr : r ≠ some b) : w2.heap[b]? = some o :=
  (hg.block _ (lt_of_block h) (fun e => hr e.symm)).trans h
theorem grown_some {w w' : World} (h : w.grownBy w' none) (r : Option Nat) : w.grownBy w' r := ⟨h.os, h.tape, h.output, h.size, fun k hk _ => h.block k hk (by simp)⟩
theorem alloc_grown {w w1 : World} {o : Obj} {r : Option Nat} (hg : (w.alloc o).grownBy w1 r) : w.grownBy w1 r := grown_trans (World.grownBy_alloc _ _ _) hg
theorem CK.alloc {w : World} {C n : Nat} {num : Int} (h : CK w C num n) (o : Obj) : CK (w.alloc o) C num n := h.keep (World.grownBy_alloc w o none) (by simp)

theorem ret_two {k j : IntKind} {a b c d : Int} (h : a = b) (h2 : c = d) : Ending.returned (.tuple #[.int k a, .int j c]) = .returned (.tuple #[.int k b, .int j d]) := by rw [h, h2]


set_option maxHeartbeats 400000 in
theorem ty_any (C n : Nat) (num er : Int) (t : Sy.Ty) (w : World) (hC : Hid (CK w C num n)) (hs : t.gen.size ≤ maxLen) (he : Hid (er = Sy.tyW t)) :
    Calls Tryd.prog 31 #[.pointer (some ⟨C, 0, none⟩), tyV t] w fun e w' => Fate0 num er w e w' := by
  have hlt := hC.out.lt
  by_cases h1 : t.kind < 1 ∨ 3 < t.kind
  · have HE : Hid (er = 1) := by have := he.out; unfold Sy.tyW at this; rw [if_pos h1] at this; exact this
    have HK : Hid ((1 : Int) = if t.kind < 1 ∨ 3 < t.kind then 1 else 0) := by rw [if_pos h1]; rfl
    clear h1
    have HC0 : Hid (CK (w.alloc (.cells #[.int .i64 t.kind, .string t.gen] 38)) C num n) := hC.out.alloc _
    go_enter Tryd.func31, Tryd.ntmps31
    go_wp2_with fail
    refine (Calls.bad0 1 (kind_any C n num t.kind 3 1 _ HC0 HK) rfl (by decide)).mono ?_
    rintro e w1 ⟨rfl, hg⟩
    go_wp2
    exact ⟨rfl, fate0_bad (alloc_grown hg) HE.out (by decide)⟩
  · have HK : Hid ((0 : Int) = if t.kind < 1 ∨ 3 < t.kind then 1 else 0) := by rw [if_neg h1]; rfl
    have HX : Hid (er = if t.kind = 3 ∧ Sy.nm t.gen = false then 7 else 0) := by have := he.out; unfold Sy.tyW at this; rw [if_neg h1] at this; exact this
    clear h1
    by_cases h3 : t.kind = 3
    · have H3 : Hid (t.kind = 3) := h3
      obtain ⟨er2, hE2⟩ : ∃ er2 : Int, er2 = if Sy.nm t.gen = false then 7 else 0 := ⟨_, rfl⟩
      have HE2 : Hid (er2 = if Sy.nm t.gen = false then 7 else 0) := hE2
      have HX2 : Hid (er = er2) := by have := HX.out; simp only [H3.out, true_and] at this; rw [this, hE2]; rfl
      have e3 : (t.kind == 3) = true := by simp [h3]
      clear h3 hE2
      have HC0 : Hid (CK (w.alloc (.cells #[.int .i64 t.kind, .string t.gen] 38)) C num n) := hC.out.alloc _
      go_enter Tryd.func31, Tryd.ntmps31
      go_wp2_with fail
      refine (Calls.ok0 (kind_any C n num t.kind 3 0 _ HC0 HK) rfl).mono ?_
      rintro e w1 ⟨rfl, hg⟩
      have hb := two_cell (box_in hg (by simp))
      obtain ⟨b0, b1, _, _⟩ := hb
      have HC1 : Hid (CK w1 C num n) := HC0.out.keep hg (by simp)
      have HG : Hid (w.grownBy w1 none) := alloc_grown hg
      clear hg
      go_wp2_with fail
      refine (cname_any C n num er2 t.gen _ HC1 hs HE2).mono ?_
      rintro e w2 hf
      have HF : Hid (Fate0 num er2 w1 e w2) := hf
      clear hf
      by_cases h0 : er2 = 0
      · obtain rfl := fate0_not HF.out h0
        have H0 : Hid (er2 = 0) := h0
        clear h0
        go_wp2
        go_end0
        exact fate0_ok (grown_trans HG.out HF.out.1) (by rw [HX2.out]; exact H0.out)
      · obtain rfl := fate0_err HF.out h0
        have H0 : Hid (er2 ≠ 0) := h0
        clear h0
        go_wp2
        exact ⟨rfl, fate0_bad (grown_trans HG.out HF.out.1) HX2.out H0.out⟩
    · have HE : Hid (er = 0) := by have := HX.out; rw [if_neg (by simp [h3])] at this; exact this
      have e3 : (t.kind == 3) = false := by simp [h3]
      clear h3
      have HC0 : Hid (CK (w.alloc (.cells #[.int .i64 t.kind, .string t.gen] 38)) C num n) := hC.out.alloc _
      go_enter Tryd.func31, Tryd.ntmps31
      go_wp2_with fail
      refine (Calls.ok0 (kind_any C n num t.kind 3 0 _ HC0 HK) rfl).mono ?_
      rintro e w1 ⟨rfl, hg⟩
      have hb := two_cell (box_in hg (by simp))
      obtain ⟨b0, b1, _, _⟩ := hb
      have HG : Hid (w.grownBy w1 none) := alloc_grown hg
      clear hg
      go_wp2
      go_end0
      exact fate0_ok HG.out HE.out

set_option maxHeartbeats 400000 in
theorem kidsOf_any (k : Int) (w : World) :
    Calls Tryd.prog 81 #[.int .i64 k] w fun e w' => e = .returned (.tuple #[.int .i64 (Sy.least k), .int .i64 (Sy.most k)]) ∧ w' = w := by
  obtain ⟨l, hl⟩ : ∃ l, Sy.least k = l := ⟨_, rfl⟩
  obtain ⟨m, hm⟩ : ∃ m, Sy.most k = m := ⟨_, rfl⟩
  rw [hl, hm]
  have HL : Hid (Sy.least k = l) := hl
  have HM : Hid (Sy.most k = m) := hm
  clear hl hm
  go_enter Tryd.func81, Tryd.ntmps81
  go_wp2
  all_goals go_ret2
  all_goals refine ⟨ret_two ?_ ?_, rfl⟩
  all_goals first | rw [← HL.out] | rw [← HM.out]
  all_goals
    clear HL HM
    simp only [beq_iff_eq, beq_eq_false_iff_ne, ne_eq] at *
    first | unfold Sy.least | unfold Sy.most
    repeat' split
    all_goals omega

theorem three_cell {w : World} {b : Nat} {v0 v1 v2 : Value} {t : TypeId} (h : w.heap[b]? = some (.cells #[v0, v1, v2] t (0, 0))) :
    w.cell? ⟨b, 0, none⟩ = some v0 ∧ w.cell? ⟨b, 1, none⟩ = some v1 ∧ w.cell? ⟨b, 2, none⟩ = some v2 := by simp [World.cell?, h]

theorem pmsW_at {l : List Sy.Pm} {k : Nat} {p : Sy.Pm} (h : l[k]? = some p) : Sy.pmsW (l.drop k) = if Sy.nm p.name = false then 7 else if Sy.tyW p.ty ≠ 0 then Sy.tyW p.ty else Sy.pmsW (l.drop (k + 1)) := by
  obtain ⟨hk, rfl⟩ := List.getElem?_eq_some_iff.1 h
  rw [List.drop_eq_getElem_cons hk]
  rfl

set_option maxHeartbeats 1000000 in
theorem params_any (C B n : Nat) (num er : Int) (l : List Sy.Pm) (a : Option Addr) (c : Nat) (w : World) (hBC : B ≤ C) (hC : Hid (CK w C num n)) (hP : Hid (PmsIn B w l a)) (he : Hid (er = if 6 < l.length then 5 else Sy.pmsW l)) :
    Calls Tryd.prog 30 #[.pointer (some ⟨C, 0, none⟩), .slice a l.length c] w fun e w' => Fate0 num er w e w' := by
  have hlen := hP.out.1
  unfold maxLen at hlen
  obtain ⟨L, hL⟩ : ∃ L, l.length = L := ⟨_, rfl⟩
  have HL : Hid (l.length = L) := hL
  rw [hL] at he hlen ⊢
  clear hL
  have hCl := hC.out.lt
  by_cases h6 : 6 < L
  · have HE : Hid (er = 5) := by rw [if_pos h6] at he; exact he
    have HK : Hid ((5 : Int) = if (6 : Int) < (L : Int) then 5 else 0) := by rw [if_pos (by omega)]; rfl
    clear h6
    go_enter Tryd.func30, Tryd.ntmps30
    go_wp2_with fail
    refine (Calls.bad0 5 (atMost_any C n num L 6 5 _ hC HK) rfl (by decide)).mono ?_
    rintro e w1 ⟨rfl, hg⟩
    go_wp2
    exact ⟨rfl, fate0_bad hg HE.out (by decide)⟩
  · have HE : Hid (er = Sy.pmsW l) := by rw [if_neg h6] at he; exact he
    have HK : Hid ((0 : Int) = if (6 : Int) < (L : Int) then 5 else 0) := by rw [if_neg (by omega)]; rfl
    have h6' : L ≤ 6 := by omega
    clear h6
    go_enter Tryd.func30, Tryd.ntmps30
    go_wp2_with fail
    refine (Calls.ok0 (atMost_any C n num L 6 0 _ hC HK) rfl).mono ?_
    rintro e w1 ⟨rfl, hg⟩
    have HG : Hid (w.grownBy w1 none) := hg
    clear hg
    go_wp2
    go_loopw [12] (fun i wr => ∃ k : Nat, k ≤ L ∧ i = .int .i64 k ∧ Hid (w.grownBy wr none) ∧ Hid (er = Sy.pmsW (l.drop k))) (fun i _ => L - (intOf i).toNat)
    case atStart => exact ⟨0, Nat.zero_le _, rfl, HG, HE⟩
    case round =>
      obtain ⟨k, hk, rfl, HGr, HEr⟩ := hrel
      by_cases hlt : k < L
      · obtain ⟨p, hp⟩ : ∃ p, l[k]? = some p := ⟨_, List.getElem?_eq_getElem (by rw [HL.out]; exact hlt)⟩
        have hPr := hP.out.same (same_grown (C := none) HGr.out (by simp) (by omega))
        obtain ⟨b, off, rfl, hb, c0, c1, c2, s0, s1⟩ := hPr.2 k p hp
        have HE2 : Hid (er = if Sy.nm p.name = false then 7 else if Sy.tyW p.ty ≠ 0 then Sy.tyW p.ty else Sy.pmsW (l.drop (k + 1))) := HEr.out.trans (pmsW_at hp)
        have HCr : Hid (CK wr C num n) := hC.out.keep HGr.out (by simp)
        clear hPr hp HEr
        obtain ⟨e1, hE1⟩ : ∃ e1 : Int, e1 = if Sy.nm p.name = false then 7 else 0 := ⟨_, rfl⟩
        have HE1 : Hid (e1 = if Sy.nm p.name = false then 7 else 0) := hE1
        clear hE1
        go_wp2_with fail
        refine (cname_any C n num e1 p.name _ (HCr.out.alloc _) s0 HE1).mono ?_
        rintro e w2 hf
        have HF : Hid (Fate0 num e1 _ e w2) := hf
        clear hf
        by_cases h0 : e1 = 0
        · obtain rfl := fate0_not HF.out h0
          have HN : Hid (Sy.nm p.name = true) := by
            have := HE1.out; rw [h0] at this
            cases hh : Sy.nm p.name
            · rw [if_pos hh] at this; omega
            · rfl
          have HE3 : Hid (er = if Sy.tyW p.ty ≠ 0 then Sy.tyW p.ty else Sy.pmsW (l.drop (k + 1))) := by
            have := HE2.out; rw [if_neg (by rw [HN.out]; decide)] at this; exact this
          obtain ⟨t0, t1, t2⟩ := three_cell (box_in HF.out.1 (by simp))
          have HC2 : Hid (CK w2 C num n) := (HCr.out.alloc _).keep HF.out.1 (by simp)
          have HG2 : Hid (w.grownBy w2 none) := grown_trans HGr.out (alloc_grown HF.out.1)
          obtain ⟨e2, hE2⟩ : ∃ e2 : Int, e2 = Sy.tyW p.ty := ⟨_, rfl⟩
          have HE4 : Hid (e2 = Sy.tyW p.ty) := hE2
          clear h0 hE2 c0 c1 c2
          go_wp2_with fail
          refine (ty_any C n num e2 p.ty _ HC2 s1 HE4).mono ?_
          rintro e w3 hf
          have HF3 : Hid (Fate0 num e2 w2 e w3) := hf
          have HG3 : Hid (w.grownBy w3 none) := grown_trans HG2.out hf.1
          clear hf
          by_cases h0 : e2 = 0
          · obtain rfl := fate0_not HF3.out h0
            have HE5 : Hid (er = Sy.pmsW (l.drop (k + 1))) := by
              have := HE3.out; rw [if_neg (by rw [← HE4.out]; simp [h0])] at this; exact this
            clear h0 t0 t1 t2
            go_wp2
            go_roundw
            case rel => exact ⟨k + 1, by omega, by go_num, HG3, HE5⟩
            case measure => simp [intOf]; omega
          · obtain rfl := fate0_err HF3.out h0
            have HE5 : Hid (er = e2) := by
              have := HE3.out; rw [if_pos (by rw [← HE4.out]; exact h0), ← HE4.out] at this; exact this
            have H0 : Hid (e2 ≠ 0) := h0
            clear h0 t0 t1 t2
            go_wp2
            exact ⟨rfl, fate0_bad HG3.out HE5.out H0.out⟩
        · obtain rfl := fate0_err HF.out h0
          have HN : Hid (e1 = 7 ∧ er = 7) := by
            cases hh : Sy.nm p.name
            · exact ⟨by have := HE1.out; rw [if_pos hh] at this; exact this, by have := HE2.out; rw [if_pos hh] at this; exact this⟩
            · exact absurd (by have := HE1.out; rw [if_neg (by rw [hh]; decide)] at this; exact this) h0
          have H0 : Hid (e1 ≠ 0) := h0
          clear h0 c0 c1 c2
          go_wp2
          exact ⟨rfl, fate0_bad (grown_trans HGr.out (alloc_grown HF.out.1)) (by rw [HN.out.1, HN.out.2]) H0.out⟩
      · have HE0 : Hid (er = 0) := by
          have := HEr.out
          rw [List.drop_of_length_le (by rw [HL.out]; omega)] at this
          exact this
        go_wp2
        go_end0
        exact fate0_ok HGr.out HE0.out

end Go.Proofs.YtbbklahhnepiaaaDoor
