/- The walk of the checker's expr. -/
import Derived.Test.YtbbklahhnepiaaaDoorCk3
namespace Go.Proofs.YtbbklahhnepiaaaDoor
open Go.RowKit

theorem four_cell {w : World} {b : Nat} {v0 v1 v2 v3 : Value} {t : TypeId} (h : w.heap[b]? = some (.cells #[v0, v1, v2, v3] t (0, 0))) :
    w.cell? ⟨b, 0, none⟩ = some v0 ∧ w.cell? ⟨b, 1, none⟩ = some v1 ∧ w.cell? ⟨b, 2, none⟩ = some v2 ∧ w.cell? ⟨b, 3, none⟩ = some v3 := by simp [World.cell?, h]

/-- Of the number of kids. -/
def exTail (x : Sy.Ex) : Int := if (x.kids.length : Int) < Sy.least x.kind ∨ Sy.most x.kind < x.kids.length then 5 else 0

theorem exHead_num {x : Sy.Ex} (h : x.kind = 1) : Sy.exHead x = if x.n < 0 ∨ 999999999999999 < x.n then 3 else exTail x := by
  unfold Sy.exHead exTail
  by_cases hr : x.n < 0 ∨ 999999999999999 < x.n
  · rw [if_pos (.inl ⟨h, hr⟩), if_pos hr]
  · rw [if_neg (by rintro (⟨_, h2⟩ | ⟨h2, _⟩) <;> omega), if_neg hr, if_neg (by omega)]
theorem exHead_bool {x : Sy.Ex} (h : x.kind = 2) : Sy.exHead x = if x.n < 0 ∨ 1 < x.n then 3 else exTail x := by
  unfold Sy.exHead exTail
  by_cases hr : x.n < 0 ∨ 1 < x.n
  · rw [if_pos (.inr ⟨h, hr⟩), if_pos hr]
  · rw [if_neg (by rintro (⟨h2, _⟩ | ⟨_, h2⟩) <;> omega), if_neg hr, if_neg (by omega)]
theorem exHead_name {x : Sy.Ex} (h : x.kind = 3 ∨ x.kind = 19 ∨ x.kind = 20 ∨ x.kind = 22) : Sy.exHead x = if Sy.nm x.name = false then 7 else exTail x := by
  unfold Sy.exHead exTail
  rw [if_neg (by rintro (⟨h2, _⟩ | ⟨h2, _⟩) <;> omega)]
  cases hn : Sy.nm x.name
  · rw [if_pos ⟨h, rfl⟩, if_pos rfl]
  · rw [if_neg (by rintro ⟨_, h2⟩; exact absurd h2 (by decide)), if_neg (show ¬ (true = false) by decide)]
theorem exHead_else {x : Sy.Ex} (h : x.kind ≠ 1 ∧ x.kind ≠ 2 ∧ x.kind ≠ 3 ∧ x.kind ≠ 19 ∧ x.kind ≠ 20 ∧ x.kind ≠ 22) : Sy.exHead x = exTail x := by
  unfold Sy.exHead exTail
  rw [if_neg (by rintro (⟨h2, _⟩ | ⟨h2, _⟩) <;> omega), if_neg (by omega)]

theorem exW_bad {d : Nat} {x : Sy.Ex} {n : Nat} (h : Sy.nodeW x.kind 24 (d + 1) n ≠ 0) : Sy.exW (d + 1) x n = .error (Sy.nodeW x.kind 24 (d + 1) n) := by
  unfold Sy.exW; rw [if_pos h]
theorem exW_head {d : Nat} {x : Sy.Ex} {n : Nat} (h : Sy.nodeW x.kind 24 (d + 1) n = 0) (k : Int) (hk : Sy.exHead x = k) (h0 : k ≠ 0) : Sy.exW (d + 1) x n = .error k := by
  unfold Sy.exW; rw [if_neg (by simpa using h), if_pos (by rw [hk]; exact h0), hk]
theorem exW_kids {d : Nat} {x : Sy.Ex} {n : Nat} (h : Sy.nodeW x.kind 24 (d + 1) n = 0) (hk : Sy.exHead x = 0) : Sy.exW (d + 1) x n = Sy.runs (Sy.exW d) x.kids (n + 1) := by
  conv => lhs; unfold Sy.exW
  rw [if_neg (by simpa using h), if_neg (by simpa using hk)]

/-- What the walk knows behind the head of an expression. -/
def ExMid (w : World) (C : Nat) (num : Int) (x : Sy.Ex) (a : Option Addr) (c n : Nat) (w1 : World) : Prop :=
  w.grownBy w1 (some C) ∧ CK w1 C num n ∧ w1.heap[w.heap.size]? = some (.cells #[.int .i64 x.kind, .int .i64 x.n, .string x.name, .slice a x.kids.length c] 70 (0, 0))

theorem ExMid.on {w : World} {C : Nat} {num : Int} {x : Sy.Ex} {a : Option Addr} {c n : Nat} {w1 w2 : World} (h : ExMid w C num x a c n w1) (hg : w1.grownBy w2 none) : ExMid w C num x a c n w2 :=
  ⟨grown_trans h.1 (grown_some hg _), h.2.1.keep hg (by simp), box_on h.2.2 hg (by simp)⟩

theorem runs_ok {α : Type} {f : α → Nat → Except Int Nat} {l : List α} {k n m : Nat} {a : α} (h : l[k]? = some a) (hf : f a n = .ok m) : Sy.runs f (l.drop k) n = Sy.runs f (l.drop (k + 1)) m := by
  rw [Sy.runs_at h, hf]
theorem runs_err {α : Type} {f : α → Nat → Except Int Nat} {l : List α} {k n : Nat} {a : α} {e : Int} (h : l[k]? = some a) (hf : f a n = .error e) : Sy.runs f (l.drop k) n = .error e := by
  rw [Sy.runs_at h, hf]




set_option maxRecDepth 100000 in
set_option maxHeartbeats 2000000 in
theorem expr_zero (C : Nat) (num : Int) (x : Sy.Ex) (a : Option Addr) (c n : Nat) (deep : Int) (r : Except Int Nat) (w : World) (hdeep : deep = 41 - ((0 : Nat) : Int)) (hC : Hid (CK w C num n)) (hn : n ≤ 2000) (hr : Hid (r = Sy.exW 0 x n)) :
    Calls Tryd.prog 67 #[.pointer (some ⟨C, 0, none⟩), exV x a c, .int .i64 deep] w fun e w' => w.grownBy w' (some C) ∧ Fate C num r e w' := by
  have HD : Hid (deep = 41 - ((0 : Nat) : Int)) := hdeep
  clear hdeep
  have HC0 : Hid (CK (w.alloc (.cells #[.int .i64 x.kind, .int .i64 x.n, .string x.name, .slice a x.kids.length c] 70)) C num n) := hC.out.alloc _
  have HR : Hid (r = .error 4) := hr.out
  have HR1 : Hid (Except.error 4 = nodeR x.kind 24 0 n) := by
    have h4 : Sy.nodeW x.kind 24 0 n = 4 := by unfold Sy.nodeW; rw [if_pos (.inr rfl)]
    unfold nodeR; rw [h4]; rfl
  go_enter Tryd.func67, Tryd.ntmps67
  go_wp2_with fail
  refine (node_any C n 0 num x.kind 24 deep _ _ HC0 hn HD.out HR1).mono ?_
  rintro e w1 ⟨hg, hf⟩
  obtain rfl : e = .panicked [fltE 4 num] := hf
  go_wp2
  exact ⟨rfl, alloc_grown hg, by rw [HR.out]; rfl⟩

set_option maxRecDepth 100000 in
set_option maxHeartbeats 2000000 in
theorem expr_step (C B d : Nat) (num : Int) (hBC : B ≤ C)
    (ih : ∀ (h : Nat) (x : Sy.Ex) (a : Option Addr) (c n : Nat) (deep : Int) (r : Except Int Nat) (w : World), deep = 41 - d → d ≤ 41 → Hid (ExIn B w h x a) → Hid (CK w C num n) → n ≤ 2000 → Hid (r = Sy.exW d x n) →
      Calls Tryd.prog 67 #[.pointer (some ⟨C, 0, none⟩), exV x a c, .int .i64 deep] w fun e w' => w.grownBy w' (some C) ∧ Fate C num r e w')
    (h : Nat) (x : Sy.Ex) (a : Option Addr) (c n : Nat) (deep : Int) (r : Except Int Nat) (w : World) (hdeep : deep = 41 - ((d + 1 : Nat) : Int)) (hd : d + 1 ≤ 41) (hX : Hid (ExIn B w (h + 1) x a)) (hC : Hid (CK w C num n)) (hn : n ≤ 2000) (hr : Hid (r = Sy.exW (d + 1) x n)) :
    Calls Tryd.prog 67 #[.pointer (some ⟨C, 0, none⟩), exV x a c, .int .i64 deep] w fun e w' => w.grownBy w' (some C) ∧ Fate C num r e w' := by
  have HD : Hid (deep = 41 - ((d + 1 : Nat) : Int)) := hdeep
  have hdp0 : 0 ≤ deep := by omega
  have hdp1 : deep ≤ 40 := by omega
  clear hdeep
  have hlen := hX.out.2.1
  have hname := hX.out.1
  have hCl := hC.out.lt
  unfold maxLen at hlen
  have HC0 : Hid (CK (w.alloc (.cells #[.int .i64 x.kind, .int .i64 x.n, .string x.name, .slice a x.kids.length c] 70)) C num n) := hC.out.alloc _
  obtain ⟨r1, hr1⟩ : ∃ r1, r1 = nodeR x.kind 24 (d + 1) n := ⟨_, rfl⟩
  have HR1 : Hid (r1 = nodeR x.kind 24 (d + 1) n) := hr1
  by_cases hnode : Sy.nodeW x.kind 24 (d + 1) n = 0
  · have hr1' : r1 = .ok (n + 1) := by rw [hr1]; unfold nodeR; rw [if_neg (by simpa using hnode)]
    obtain ⟨hn1, hk1, hk2, _⟩ := Sy.nodeW_zero hnode
    have HN : Hid (Sy.nodeW x.kind 24 (d + 1) n = 0) := hnode
    clear hnode hr1
    subst hr1'
    rcases (show x.kind = 1 ∨ x.kind = 2 ∨ (x.kind = 3 ∨ x.kind = 19 ∨ x.kind = 20 ∨ x.kind = 22) ∨ (x.kind ≠ 1 ∧ x.kind ≠ 2 ∧ x.kind ≠ 3 ∧ x.kind ≠ 19 ∧ x.kind ≠ 20 ∧ x.kind ≠ 22) by omega) with h1 | h1 | h1 | h1
    · have e1 : (x.kind == 1) = true := by simp; omega
      have e2 : (x.kind == 2) = false := by simp; omega
      have hh := exHead_num h1
      clear h1
      by_cases hr0 : x.n < 0 ∨ 999999999999999 < x.n
      · have HT : Hid (r = .error 3) := hr.out.trans (exW_head HN.out 3 (by rw [hh, if_pos hr0]) (by decide))
        have HK : Hid ((3 : Int) = if x.n < 0 ∨ 999999999999999 < x.n then 3 else 0) := by rw [if_pos hr0]; rfl
        clear hh hr0
        go_enter Tryd.func67, Tryd.ntmps67
        go_wp2_with fail
        refine (node_any C n (d + 1) num x.kind 24 deep _ _ HC0 hn HD.out HR1).mono ?_
        rintro e w1 ⟨hg, hf⟩
        obtain ⟨rfl, hck⟩ := hf
        have HM : Hid (ExMid w C num x a c (n + 1) w1) := ⟨alloc_grown hg, hck, box_in hg (by simp; omega)⟩
        clear hg hck
        obtain ⟨b0, b1, b2, b3⟩ := four_cell HM.out.2.2
        go_wp2_with fail
        refine (Calls.bad0 3 (within_any C (n + 1) num x.n 0 999999999999999 3 _ HM.out.2.1 HK) rfl (by decide)).mono ?_
        rintro e w2 ⟨rfl, hg⟩
        go_wp2
        exact ⟨rfl, grown_trans HM.out.1 (grown_some hg _), by rw [HT.out]; rfl⟩
      · have HT : Hid (r = if exTail x ≠ 0 then .error (exTail x) else Sy.runs (Sy.exW d) x.kids (n + 1)) := by
          rw [if_neg hr0] at hh
          by_cases ht : exTail x = 0
          · rw [if_neg (by simpa using ht)]; exact hr.out.trans (exW_kids HN.out (by rw [hh, ht]))
          · rw [if_pos (by simpa using ht)]; exact hr.out.trans (exW_head HN.out _ hh ht)
        have HK : Hid ((0 : Int) = if x.n < 0 ∨ 999999999999999 < x.n then 3 else 0) := by rw [if_neg hr0]; rfl
        clear hh hr0
        go_enter Tryd.func67, Tryd.ntmps67
        go_wp2_with fail
        refine (node_any C n (d + 1) num x.kind 24 deep _ _ HC0 hn HD.out HR1).mono ?_
        rintro e w1 ⟨hg, hf⟩
        obtain ⟨rfl, hck⟩ := hf
        have HM : Hid (ExMid w C num x a c (n + 1) w1) := ⟨alloc_grown hg, hck, box_in hg (by simp; omega)⟩
        clear hg hck
        obtain ⟨b0, b1, b2, b3⟩ := four_cell HM.out.2.2
        go_wp2_with fail
        refine (Calls.ok0 (within_any C (n + 1) num x.n 0 999999999999999 0 _ HM.out.2.1 HK) rfl).mono ?_
        rintro e w2 ⟨rfl, hg⟩
        have HM2 : Hid (ExMid w C num x a c (n + 1) w2) := HM.out.on hg
        clear hg b0 b1 b2 b3 HM
        have HM := HM2
        clear HM2
        obtain ⟨b0, b1, b2, b3⟩ := four_cell HM.out.2.2
        go_wp2_with fail
        refine (kidsOf_any x.kind _).mono ?_
        rintro e w2 ⟨rfl, rfl⟩
        by_cases hl : (x.kids.length : Int) < Sy.least x.kind
        · have HT2 : Hid (r = .error 5) := by
            have hx : exTail x = 5 := by unfold exTail; rw [if_pos (.inl hl)]
            have := HT.out; rw [hx, if_pos (by decide)] at this; exact this
          go_wp2_with fail
          refine (fail_any C (n + 1) num 5 _ HM.out.2.1).mono ?_
          rintro e w2 ⟨rfl, rfl⟩
          go_wp2
          exact ⟨rfl, HM.out.1, by rw [HT2.out]; rfl⟩
        · by_cases hm : Sy.most x.kind < (x.kids.length : Int)
          · have HT2 : Hid (r = .error 5) := by
              have hx : exTail x = 5 := by unfold exTail; rw [if_pos (.inr hm)]
              have := HT.out; rw [hx, if_pos (by decide)] at this; exact this
            have HK : Hid ((5 : Int) = if Sy.most x.kind < (x.kids.length : Int) then 5 else 0) := by rw [if_pos hm]; rfl
            clear hm
            go_wp2_with fail
            refine (Calls.bad0 5 (atMost_any C (n + 1) num x.kids.length (Sy.most x.kind) 5 _ HM.out.2.1 HK) rfl (by decide)).mono ?_
            rintro e w2 ⟨rfl, hg⟩
            go_wp2
            exact ⟨rfl, grown_trans HM.out.1 (grown_some hg _), by rw [HT2.out]; rfl⟩
          · have HT2 : Hid (r = Sy.runs (Sy.exW d) x.kids (n + 1)) := by
              have hx : exTail x = 0 := by unfold exTail; rw [if_neg (by omega)]
              have := HT.out; rw [hx, if_neg (by decide)] at this; exact this
            have HK : Hid ((0 : Int) = if Sy.most x.kind < (x.kids.length : Int) then 5 else 0) := by rw [if_neg hm]; rfl
            clear hm
            go_wp2_with fail
            refine (Calls.ok0 (atMost_any C (n + 1) num x.kids.length (Sy.most x.kind) 0 _ HM.out.2.1 HK) rfl).mono ?_
            rintro e w2 ⟨rfl, hg⟩
            have HM2 : Hid (ExMid w C num x a c (n + 1) w2) := HM.out.on hg
            clear hg b0 b1 b2 b3 hl
            obtain ⟨b0, b1, b2, b3⟩ := four_cell HM2.out.2.2
            go_wp2
            go_loopw [60] (fun i wr => ∃ k m : Nat, k ≤ x.kids.length ∧ i = .int .i64 k ∧ m ≤ 2000 ∧ Hid (CK wr C num m) ∧ Hid (w.grownBy wr (some C)) ∧ Hid (r = Sy.runs (Sy.exW d) (x.kids.drop k) m)) (fun i _ => x.kids.length - (intOf i).toNat)
            case atStart => exact ⟨0, n + 1, Nat.zero_le _, rfl, hn1, HM2.out.2.1, HM2.out.1, by rw [List.drop_zero]; exact HT2⟩
            case round =>
              obtain ⟨k, m, hk, rfl, hm, HCr, HGr, HRr⟩ := hrel
              clear b0 b1 b2 b3
              by_cases hlt : k < x.kids.length
              · obtain ⟨kid, hkid⟩ : ∃ kid, x.kids[k]? = some kid := ⟨_, List.getElem?_eq_getElem hlt⟩
                have HKid : Hid (x.kids[k]? = some kid) := hkid
                obtain ⟨b, off, a', c', rfl, hb, c0, c1, c2, c3, hin⟩ := hX.out.2.2 k kid hkid
                have hsame := same_grown (B := B) HGr.out (by intro c e; cases e; exact hBC) (by omega)
                rw [← hsame _ _ hb] at c0 c1 c2 c3
                have HIn : Hid (ExIn B wr h kid a') := hin.same hsame
                clear hin hsame hkid
                obtain ⟨r2, hr2⟩ : ∃ r2, r2 = Sy.exW d kid m := ⟨_, rfl⟩
                have HR2 : Hid (r2 = Sy.exW d kid m) := hr2
                clear hr2
                go_wp2_with fail
                refine (ih h kid a' c' m (deep + 1) r2 _ (by have := HD.out; omega) (by omega) (HIn.out.same (same_grown (World.grownBy_alloc _ _ none) (by simp) (by have := HGr.out.size; omega))) (HCr.out.alloc _) hm HR2).mono ?_
                rintro e w3 ⟨hg, hf⟩
                have HG3 : Hid (w.grownBy w3 (some C)) := grown_trans HGr.out (alloc_grown hg)
                cases r2 with
                | ok m2 =>
                  obtain ⟨rfl, hck⟩ := hf
                  have HC3 : Hid (CK w3 C num m2) := hck
                  have hm2 : m2 ≤ 2000 := Sy.exW_le _ _ _ _ hm HR2.out.symm
                  have HR3 : Hid (r = Sy.runs (Sy.exW d) (x.kids.drop (k + 1)) m2) := HRr.out.trans (runs_ok HKid.out HR2.out.symm)
                  clear hg hck c0 c1 c2 c3
                  go_wp2
                  go_roundw
                  case rel => exact ⟨k + 1, m2, by omega, by go_num, hm2, HC3, HG3, HR3⟩
                  case measure => simp [intOf]; omega
                | error er =>
                  obtain rfl : e = .panicked [fltE er num] := hf
                  have HR3 : Hid (r = .error er) := HRr.out.trans (runs_err HKid.out HR2.out.symm)
                  clear hg c0 c1 c2 c3
                  go_wp2
                  exact ⟨rfl, HG3.out, by rw [HR3.out]; rfl⟩
              · have HR3 : Hid (r = .ok m) := by
                  have := HRr.out
                  rw [List.drop_of_length_le (by omega)] at this
                  exact this
                go_wp2
                go_end0
                exact ⟨HGr.out, by rw [HR3.out]; exact ⟨rfl, HCr.out⟩⟩
    · have e1 : (x.kind == 1) = false := by simp; omega
      have e2 : (x.kind == 2) = true := by simp; omega
      have hh := exHead_bool h1
      clear h1
      by_cases hr0 : x.n < 0 ∨ 1 < x.n
      · have HT : Hid (r = .error 3) := hr.out.trans (exW_head HN.out 3 (by rw [hh, if_pos hr0]) (by decide))
        have HK : Hid ((3 : Int) = if x.n < 0 ∨ 1 < x.n then 3 else 0) := by rw [if_pos hr0]; rfl
        clear hh hr0
        go_enter Tryd.func67, Tryd.ntmps67
        go_wp2_with fail
        refine (node_any C n (d + 1) num x.kind 24 deep _ _ HC0 hn HD.out HR1).mono ?_
        rintro e w1 ⟨hg, hf⟩
        obtain ⟨rfl, hck⟩ := hf
        have HM : Hid (ExMid w C num x a c (n + 1) w1) := ⟨alloc_grown hg, hck, box_in hg (by simp; omega)⟩
        clear hg hck
        obtain ⟨b0, b1, b2, b3⟩ := four_cell HM.out.2.2
        go_wp2_with fail
        refine (Calls.bad0 3 (within_any C (n + 1) num x.n 0 1 3 _ HM.out.2.1 HK) rfl (by decide)).mono ?_
        rintro e w2 ⟨rfl, hg⟩
        go_wp2
        exact ⟨rfl, grown_trans HM.out.1 (grown_some hg _), by rw [HT.out]; rfl⟩
      · have HT : Hid (r = if exTail x ≠ 0 then .error (exTail x) else Sy.runs (Sy.exW d) x.kids (n + 1)) := by
          rw [if_neg hr0] at hh
          by_cases ht : exTail x = 0
          · rw [if_neg (by simpa using ht)]; exact hr.out.trans (exW_kids HN.out (by rw [hh, ht]))
          · rw [if_pos (by simpa using ht)]; exact hr.out.trans (exW_head HN.out _ hh ht)
        have HK : Hid ((0 : Int) = if x.n < 0 ∨ 1 < x.n then 3 else 0) := by rw [if_neg hr0]; rfl
        clear hh hr0
        go_enter Tryd.func67, Tryd.ntmps67
        go_wp2_with fail
        refine (node_any C n (d + 1) num x.kind 24 deep _ _ HC0 hn HD.out HR1).mono ?_
        rintro e w1 ⟨hg, hf⟩
        obtain ⟨rfl, hck⟩ := hf
        have HM : Hid (ExMid w C num x a c (n + 1) w1) := ⟨alloc_grown hg, hck, box_in hg (by simp; omega)⟩
        clear hg hck
        obtain ⟨b0, b1, b2, b3⟩ := four_cell HM.out.2.2
        go_wp2_with fail
        refine (Calls.ok0 (within_any C (n + 1) num x.n 0 1 0 _ HM.out.2.1 HK) rfl).mono ?_
        rintro e w2 ⟨rfl, hg⟩
        have HM2 : Hid (ExMid w C num x a c (n + 1) w2) := HM.out.on hg
        clear hg b0 b1 b2 b3 HM
        have HM := HM2
        clear HM2
        obtain ⟨b0, b1, b2, b3⟩ := four_cell HM.out.2.2
        go_wp2_with fail
        refine (kidsOf_any x.kind _).mono ?_
        rintro e w2 ⟨rfl, rfl⟩
        by_cases hl : (x.kids.length : Int) < Sy.least x.kind
        · have HT2 : Hid (r = .error 5) := by
            have hx : exTail x = 5 := by unfold exTail; rw [if_pos (.inl hl)]
            have := HT.out; rw [hx, if_pos (by decide)] at this; exact this
          go_wp2_with fail
          refine (fail_any C (n + 1) num 5 _ HM.out.2.1).mono ?_
          rintro e w2 ⟨rfl, rfl⟩
          go_wp2
          exact ⟨rfl, HM.out.1, by rw [HT2.out]; rfl⟩
        · by_cases hm : Sy.most x.kind < (x.kids.length : Int)
          · have HT2 : Hid (r = .error 5) := by
              have hx : exTail x = 5 := by unfold exTail; rw [if_pos (.inr hm)]
              have := HT.out; rw [hx, if_pos (by decide)] at this; exact this
            have HK : Hid ((5 : Int) = if Sy.most x.kind < (x.kids.length : Int) then 5 else 0) := by rw [if_pos hm]; rfl
            clear hm
            go_wp2_with fail
            refine (Calls.bad0 5 (atMost_any C (n + 1) num x.kids.length (Sy.most x.kind) 5 _ HM.out.2.1 HK) rfl (by decide)).mono ?_
            rintro e w2 ⟨rfl, hg⟩
            go_wp2
            exact ⟨rfl, grown_trans HM.out.1 (grown_some hg _), by rw [HT2.out]; rfl⟩
          · have HT2 : Hid (r = Sy.runs (Sy.exW d) x.kids (n + 1)) := by
              have hx : exTail x = 0 := by unfold exTail; rw [if_neg (by omega)]
              have := HT.out; rw [hx, if_neg (by decide)] at this; exact this
            have HK : Hid ((0 : Int) = if Sy.most x.kind < (x.kids.length : Int) then 5 else 0) := by rw [if_neg hm]; rfl
            clear hm
            go_wp2_with fail
            refine (Calls.ok0 (atMost_any C (n + 1) num x.kids.length (Sy.most x.kind) 0 _ HM.out.2.1 HK) rfl).mono ?_
            rintro e w2 ⟨rfl, hg⟩
            have HM2 : Hid (ExMid w C num x a c (n + 1) w2) := HM.out.on hg
            clear hg b0 b1 b2 b3 hl
            obtain ⟨b0, b1, b2, b3⟩ := four_cell HM2.out.2.2
            go_wp2
            go_loopw [60] (fun i wr => ∃ k m : Nat, k ≤ x.kids.length ∧ i = .int .i64 k ∧ m ≤ 2000 ∧ Hid (CK wr C num m) ∧ Hid (w.grownBy wr (some C)) ∧ Hid (r = Sy.runs (Sy.exW d) (x.kids.drop k) m)) (fun i _ => x.kids.length - (intOf i).toNat)
            case atStart => exact ⟨0, n + 1, Nat.zero_le _, rfl, hn1, HM2.out.2.1, HM2.out.1, by rw [List.drop_zero]; exact HT2⟩
            case round =>
              obtain ⟨k, m, hk, rfl, hm, HCr, HGr, HRr⟩ := hrel
              clear b0 b1 b2 b3
              by_cases hlt : k < x.kids.length
              · obtain ⟨kid, hkid⟩ : ∃ kid, x.kids[k]? = some kid := ⟨_, List.getElem?_eq_getElem hlt⟩
                have HKid : Hid (x.kids[k]? = some kid) := hkid
                obtain ⟨b, off, a', c', rfl, hb, c0, c1, c2, c3, hin⟩ := hX.out.2.2 k kid hkid
                have hsame := same_grown (B := B) HGr.out (by intro c e; cases e; exact hBC) (by omega)
                rw [← hsame _ _ hb] at c0 c1 c2 c3
                have HIn : Hid (ExIn B wr h kid a') := hin.same hsame
                clear hin hsame hkid
                obtain ⟨r2, hr2⟩ : ∃ r2, r2 = Sy.exW d kid m := ⟨_, rfl⟩
                have HR2 : Hid (r2 = Sy.exW d kid m) := hr2
                clear hr2
                go_wp2_with fail
                refine (ih h kid a' c' m (deep + 1) r2 _ (by have := HD.out; omega) (by omega) (HIn.out.same (same_grown (World.grownBy_alloc _ _ none) (by simp) (by have := HGr.out.size; omega))) (HCr.out.alloc _) hm HR2).mono ?_
                rintro e w3 ⟨hg, hf⟩
                have HG3 : Hid (w.grownBy w3 (some C)) := grown_trans HGr.out (alloc_grown hg)
                cases r2 with
                | ok m2 =>
                  obtain ⟨rfl, hck⟩ := hf
                  have HC3 : Hid (CK w3 C num m2) := hck
                  have hm2 : m2 ≤ 2000 := Sy.exW_le _ _ _ _ hm HR2.out.symm
                  have HR3 : Hid (r = Sy.runs (Sy.exW d) (x.kids.drop (k + 1)) m2) := HRr.out.trans (runs_ok HKid.out HR2.out.symm)
                  clear hg hck c0 c1 c2 c3
                  go_wp2
                  go_roundw
                  case rel => exact ⟨k + 1, m2, by omega, by go_num, hm2, HC3, HG3, HR3⟩
                  case measure => simp [intOf]; omega
                | error er =>
                  obtain rfl : e = .panicked [fltE er num] := hf
                  have HR3 : Hid (r = .error er) := HRr.out.trans (runs_err HKid.out HR2.out.symm)
                  clear hg c0 c1 c2 c3
                  go_wp2
                  exact ⟨rfl, HG3.out, by rw [HR3.out]; rfl⟩
              · have HR3 : Hid (r = .ok m) := by
                  have := HRr.out
                  rw [List.drop_of_length_le (by omega)] at this
                  exact this
                go_wp2
                go_end0
                exact ⟨HGr.out, by rw [HR3.out]; exact ⟨rfl, HCr.out⟩⟩
    · have hh := exHead_name h1
      have e1 : (x.kind == 1) = false := by simp; omega
      have e2 : (x.kind == 2) = false := by simp; omega
      cases hnm : Sy.nm x.name
      · have HT : Hid (r = .error 7) := hr.out.trans (exW_head HN.out 7 (by rw [hh, if_pos hnm]) (by decide))
        have HK : Hid ((7 : Int) = if Sy.nm x.name = false then 7 else 0) := by rw [if_pos hnm]; rfl
        clear hh hnm
        rcases h1 with h1 | h1 | h1 | h1
        · have e3 : (x.kind == 3) = true := by simp; omega
          clear h1
          go_enter Tryd.func67, Tryd.ntmps67
          go_wp2_with fail
          refine (node_any C n (d + 1) num x.kind 24 deep _ _ HC0 hn HD.out HR1).mono ?_
          rintro e w1 ⟨hg, hf⟩
          obtain ⟨rfl, hck⟩ := hf
          have HM : Hid (ExMid w C num x a c (n + 1) w1) := ⟨alloc_grown hg, hck, box_in hg (by simp; omega)⟩
          clear hg hck
          obtain ⟨b0, b1, b2, b3⟩ := four_cell HM.out.2.2
          go_wp2_with fail
          refine (Calls.bad0 7 (cname_any C (n + 1) num 7 x.name _ HM.out.2.1 hname HK) rfl (by decide)).mono ?_
          rintro e w2 ⟨rfl, hg⟩
          go_wp2
          exact ⟨rfl, grown_trans HM.out.1 (grown_some hg _), by rw [HT.out]; rfl⟩
        · have e3 : (x.kind == 3) = false := by simp; omega
          have e19 : (x.kind == 19) = true := by simp; omega
          clear h1
          go_enter Tryd.func67, Tryd.ntmps67
          go_wp2_with fail
          refine (node_any C n (d + 1) num x.kind 24 deep _ _ HC0 hn HD.out HR1).mono ?_
          rintro e w1 ⟨hg, hf⟩
          obtain ⟨rfl, hck⟩ := hf
          have HM : Hid (ExMid w C num x a c (n + 1) w1) := ⟨alloc_grown hg, hck, box_in hg (by simp; omega)⟩
          clear hg hck
          obtain ⟨b0, b1, b2, b3⟩ := four_cell HM.out.2.2
          go_wp2_with fail
          refine (Calls.bad0 7 (cname_any C (n + 1) num 7 x.name _ HM.out.2.1 hname HK) rfl (by decide)).mono ?_
          rintro e w2 ⟨rfl, hg⟩
          go_wp2
          exact ⟨rfl, grown_trans HM.out.1 (grown_some hg _), by rw [HT.out]; rfl⟩
        · have e3 : (x.kind == 3) = false := by simp; omega
          have e19 : (x.kind == 19) = false := by simp; omega
          have e20 : (x.kind == 20) = true := by simp; omega
          clear h1
          go_enter Tryd.func67, Tryd.ntmps67
          go_wp2_with fail
          refine (node_any C n (d + 1) num x.kind 24 deep _ _ HC0 hn HD.out HR1).mono ?_
          rintro e w1 ⟨hg, hf⟩
          obtain ⟨rfl, hck⟩ := hf
          have HM : Hid (ExMid w C num x a c (n + 1) w1) := ⟨alloc_grown hg, hck, box_in hg (by simp; omega)⟩
          clear hg hck
          obtain ⟨b0, b1, b2, b3⟩ := four_cell HM.out.2.2
          go_wp2_with fail
          refine (Calls.bad0 7 (cname_any C (n + 1) num 7 x.name _ HM.out.2.1 hname HK) rfl (by decide)).mono ?_
          rintro e w2 ⟨rfl, hg⟩
          go_wp2
          exact ⟨rfl, grown_trans HM.out.1 (grown_some hg _), by rw [HT.out]; rfl⟩
        · have e3 : (x.kind == 3) = false := by simp; omega
          have e19 : (x.kind == 19) = false := by simp; omega
          have e20 : (x.kind == 20) = false := by simp; omega
          have e22 : (x.kind == 22) = true := by simp; omega
          clear h1
          go_enter Tryd.func67, Tryd.ntmps67
          go_wp2_with fail
          refine (node_any C n (d + 1) num x.kind 24 deep _ _ HC0 hn HD.out HR1).mono ?_
          rintro e w1 ⟨hg, hf⟩
          obtain ⟨rfl, hck⟩ := hf
          have HM : Hid (ExMid w C num x a c (n + 1) w1) := ⟨alloc_grown hg, hck, box_in hg (by simp; omega)⟩
          clear hg hck
          obtain ⟨b0, b1, b2, b3⟩ := four_cell HM.out.2.2
          go_wp2_with fail
          refine (Calls.bad0 7 (cname_any C (n + 1) num 7 x.name _ HM.out.2.1 hname HK) rfl (by decide)).mono ?_
          rintro e w2 ⟨rfl, hg⟩
          go_wp2
          exact ⟨rfl, grown_trans HM.out.1 (grown_some hg _), by rw [HT.out]; rfl⟩
      · have HT : Hid (r = if exTail x ≠ 0 then .error (exTail x) else Sy.runs (Sy.exW d) x.kids (n + 1)) := by
          rw [if_neg (by rw [hnm]; decide)] at hh
          by_cases ht : exTail x = 0
          · rw [if_neg (by simpa using ht)]; exact hr.out.trans (exW_kids HN.out (by rw [hh, ht]))
          · rw [if_pos (by simpa using ht)]; exact hr.out.trans (exW_head HN.out _ hh ht)
        have HK : Hid ((0 : Int) = if Sy.nm x.name = false then 7 else 0) := by rw [if_neg (by rw [hnm]; decide)]; rfl
        clear hh hnm
        rcases h1 with h1 | h1 | h1 | h1
        · have e3 : (x.kind == 3) = true := by simp; omega
          clear h1
          go_enter Tryd.func67, Tryd.ntmps67
          go_wp2_with fail
          refine (node_any C n (d + 1) num x.kind 24 deep _ _ HC0 hn HD.out HR1).mono ?_
          rintro e w1 ⟨hg, hf⟩
          obtain ⟨rfl, hck⟩ := hf
          have HM : Hid (ExMid w C num x a c (n + 1) w1) := ⟨alloc_grown hg, hck, box_in hg (by simp; omega)⟩
          clear hg hck
          obtain ⟨b0, b1, b2, b3⟩ := four_cell HM.out.2.2
          go_wp2_with fail
          refine (Calls.ok0 (cname_any C (n + 1) num 0 x.name _ HM.out.2.1 hname HK) rfl).mono ?_
          rintro e w2 ⟨rfl, hg⟩
          have HM2 : Hid (ExMid w C num x a c (n + 1) w2) := HM.out.on hg
          clear hg b0 b1 b2 b3 HM
          have HM := HM2
          clear HM2
          obtain ⟨b0, b1, b2, b3⟩ := four_cell HM.out.2.2
          go_wp2_with fail
          refine (kidsOf_any x.kind _).mono ?_
          rintro e w2 ⟨rfl, rfl⟩
          by_cases hl : (x.kids.length : Int) < Sy.least x.kind
          · have HT2 : Hid (r = .error 5) := by
              have hx : exTail x = 5 := by unfold exTail; rw [if_pos (.inl hl)]
              have := HT.out; rw [hx, if_pos (by decide)] at this; exact this
            go_wp2_with fail
            refine (fail_any C (n + 1) num 5 _ HM.out.2.1).mono ?_
            rintro e w2 ⟨rfl, rfl⟩
            go_wp2
            exact ⟨rfl, HM.out.1, by rw [HT2.out]; rfl⟩
          · by_cases hm : Sy.most x.kind < (x.kids.length : Int)
            · have HT2 : Hid (r = .error 5) := by
                have hx : exTail x = 5 := by unfold exTail; rw [if_pos (.inr hm)]
                have := HT.out; rw [hx, if_pos (by decide)] at this; exact this
              have HK : Hid ((5 : Int) = if Sy.most x.kind < (x.kids.length : Int) then 5 else 0) := by rw [if_pos hm]; rfl
              clear hm
              go_wp2_with fail
              refine (Calls.bad0 5 (atMost_any C (n + 1) num x.kids.length (Sy.most x.kind) 5 _ HM.out.2.1 HK) rfl (by decide)).mono ?_
              rintro e w2 ⟨rfl, hg⟩
              go_wp2
              exact ⟨rfl, grown_trans HM.out.1 (grown_some hg _), by rw [HT2.out]; rfl⟩
            · have HT2 : Hid (r = Sy.runs (Sy.exW d) x.kids (n + 1)) := by
                have hx : exTail x = 0 := by unfold exTail; rw [if_neg (by omega)]
                have := HT.out; rw [hx, if_neg (by decide)] at this; exact this
              have HK : Hid ((0 : Int) = if Sy.most x.kind < (x.kids.length : Int) then 5 else 0) := by rw [if_neg hm]; rfl
              clear hm
              go_wp2_with fail
              refine (Calls.ok0 (atMost_any C (n + 1) num x.kids.length (Sy.most x.kind) 0 _ HM.out.2.1 HK) rfl).mono ?_
              rintro e w2 ⟨rfl, hg⟩
              have HM2 : Hid (ExMid w C num x a c (n + 1) w2) := HM.out.on hg
              clear hg b0 b1 b2 b3 hl
              obtain ⟨b0, b1, b2, b3⟩ := four_cell HM2.out.2.2
              go_wp2
              go_loopw [60] (fun i wr => ∃ k m : Nat, k ≤ x.kids.length ∧ i = .int .i64 k ∧ m ≤ 2000 ∧ Hid (CK wr C num m) ∧ Hid (w.grownBy wr (some C)) ∧ Hid (r = Sy.runs (Sy.exW d) (x.kids.drop k) m)) (fun i _ => x.kids.length - (intOf i).toNat)
              case atStart => exact ⟨0, n + 1, Nat.zero_le _, rfl, hn1, HM2.out.2.1, HM2.out.1, by rw [List.drop_zero]; exact HT2⟩
              case round =>
                obtain ⟨k, m, hk, rfl, hm, HCr, HGr, HRr⟩ := hrel
                clear b0 b1 b2 b3
                by_cases hlt : k < x.kids.length
                · obtain ⟨kid, hkid⟩ : ∃ kid, x.kids[k]? = some kid := ⟨_, List.getElem?_eq_getElem hlt⟩
                  have HKid : Hid (x.kids[k]? = some kid) := hkid
                  obtain ⟨b, off, a', c', rfl, hb, c0, c1, c2, c3, hin⟩ := hX.out.2.2 k kid hkid
                  have hsame := same_grown (B := B) HGr.out (by intro c e; cases e; exact hBC) (by omega)
                  rw [← hsame _ _ hb] at c0 c1 c2 c3
                  have HIn : Hid (ExIn B wr h kid a') := hin.same hsame
                  clear hin hsame hkid
                  obtain ⟨r2, hr2⟩ : ∃ r2, r2 = Sy.exW d kid m := ⟨_, rfl⟩
                  have HR2 : Hid (r2 = Sy.exW d kid m) := hr2
                  clear hr2
                  go_wp2_with fail
                  refine (ih h kid a' c' m (deep + 1) r2 _ (by have := HD.out; omega) (by omega) (HIn.out.same (same_grown (World.grownBy_alloc _ _ none) (by simp) (by have := HGr.out.size; omega))) (HCr.out.alloc _) hm HR2).mono ?_
                  rintro e w3 ⟨hg, hf⟩
                  have HG3 : Hid (w.grownBy w3 (some C)) := grown_trans HGr.out (alloc_grown hg)
                  cases r2 with
                  | ok m2 =>
                    obtain ⟨rfl, hck⟩ := hf
                    have HC3 : Hid (CK w3 C num m2) := hck
                    have hm2 : m2 ≤ 2000 := Sy.exW_le _ _ _ _ hm HR2.out.symm
                    have HR3 : Hid (r = Sy.runs (Sy.exW d) (x.kids.drop (k + 1)) m2) := HRr.out.trans (runs_ok HKid.out HR2.out.symm)
                    clear hg hck c0 c1 c2 c3
                    go_wp2
                    go_roundw
                    case rel => exact ⟨k + 1, m2, by omega, by go_num, hm2, HC3, HG3, HR3⟩
                    case measure => simp [intOf]; omega
                  | error er =>
                    obtain rfl : e = .panicked [fltE er num] := hf
                    have HR3 : Hid (r = .error er) := HRr.out.trans (runs_err HKid.out HR2.out.symm)
                    clear hg c0 c1 c2 c3
                    go_wp2
                    exact ⟨rfl, HG3.out, by rw [HR3.out]; rfl⟩
                · have HR3 : Hid (r = .ok m) := by
                    have := HRr.out
                    rw [List.drop_of_length_le (by omega)] at this
                    exact this
                  go_wp2
                  go_end0
                  exact ⟨HGr.out, by rw [HR3.out]; exact ⟨rfl, HCr.out⟩⟩
        · have e3 : (x.kind == 3) = false := by simp; omega
          have e19 : (x.kind == 19) = true := by simp; omega
          clear h1
          go_enter Tryd.func67, Tryd.ntmps67
          go_wp2_with fail
          refine (node_any C n (d + 1) num x.kind 24 deep _ _ HC0 hn HD.out HR1).mono ?_
          rintro e w1 ⟨hg, hf⟩
          obtain ⟨rfl, hck⟩ := hf
          have HM : Hid (ExMid w C num x a c (n + 1) w1) := ⟨alloc_grown hg, hck, box_in hg (by simp; omega)⟩
          clear hg hck
          obtain ⟨b0, b1, b2, b3⟩ := four_cell HM.out.2.2
          go_wp2_with fail
          refine (Calls.ok0 (cname_any C (n + 1) num 0 x.name _ HM.out.2.1 hname HK) rfl).mono ?_
          rintro e w2 ⟨rfl, hg⟩
          have HM2 : Hid (ExMid w C num x a c (n + 1) w2) := HM.out.on hg
          clear hg b0 b1 b2 b3 HM
          have HM := HM2
          clear HM2
          obtain ⟨b0, b1, b2, b3⟩ := four_cell HM.out.2.2
          go_wp2_with fail
          refine (kidsOf_any x.kind _).mono ?_
          rintro e w2 ⟨rfl, rfl⟩
          by_cases hl : (x.kids.length : Int) < Sy.least x.kind
          · have HT2 : Hid (r = .error 5) := by
              have hx : exTail x = 5 := by unfold exTail; rw [if_pos (.inl hl)]
              have := HT.out; rw [hx, if_pos (by decide)] at this; exact this
            go_wp2_with fail
            refine (fail_any C (n + 1) num 5 _ HM.out.2.1).mono ?_
            rintro e w2 ⟨rfl, rfl⟩
            go_wp2
            exact ⟨rfl, HM.out.1, by rw [HT2.out]; rfl⟩
          · by_cases hm : Sy.most x.kind < (x.kids.length : Int)
            · have HT2 : Hid (r = .error 5) := by
                have hx : exTail x = 5 := by unfold exTail; rw [if_pos (.inr hm)]
                have := HT.out; rw [hx, if_pos (by decide)] at this; exact this
              have HK : Hid ((5 : Int) = if Sy.most x.kind < (x.kids.length : Int) then 5 else 0) := by rw [if_pos hm]; rfl
              clear hm
              go_wp2_with fail
              refine (Calls.bad0 5 (atMost_any C (n + 1) num x.kids.length (Sy.most x.kind) 5 _ HM.out.2.1 HK) rfl (by decide)).mono ?_
              rintro e w2 ⟨rfl, hg⟩
              go_wp2
              exact ⟨rfl, grown_trans HM.out.1 (grown_some hg _), by rw [HT2.out]; rfl⟩
            · have HT2 : Hid (r = Sy.runs (Sy.exW d) x.kids (n + 1)) := by
                have hx : exTail x = 0 := by unfold exTail; rw [if_neg (by omega)]
                have := HT.out; rw [hx, if_neg (by decide)] at this; exact this
              have HK : Hid ((0 : Int) = if Sy.most x.kind < (x.kids.length : Int) then 5 else 0) := by rw [if_neg hm]; rfl
              clear hm
              go_wp2_with fail
              refine (Calls.ok0 (atMost_any C (n + 1) num x.kids.length (Sy.most x.kind) 0 _ HM.out.2.1 HK) rfl).mono ?_
              rintro e w2 ⟨rfl, hg⟩
              have HM2 : Hid (ExMid w C num x a c (n + 1) w2) := HM.out.on hg
              clear hg b0 b1 b2 b3 hl
              obtain ⟨b0, b1, b2, b3⟩ := four_cell HM2.out.2.2
              go_wp2
              go_loopw [60] (fun i wr => ∃ k m : Nat, k ≤ x.kids.length ∧ i = .int .i64 k ∧ m ≤ 2000 ∧ Hid (CK wr C num m) ∧ Hid (w.grownBy wr (some C)) ∧ Hid (r = Sy.runs (Sy.exW d) (x.kids.drop k) m)) (fun i _ => x.kids.length - (intOf i).toNat)
              case atStart => exact ⟨0, n + 1, Nat.zero_le _, rfl, hn1, HM2.out.2.1, HM2.out.1, by rw [List.drop_zero]; exact HT2⟩
              case round =>
                obtain ⟨k, m, hk, rfl, hm, HCr, HGr, HRr⟩ := hrel
                clear b0 b1 b2 b3
                by_cases hlt : k < x.kids.length
                · obtain ⟨kid, hkid⟩ : ∃ kid, x.kids[k]? = some kid := ⟨_, List.getElem?_eq_getElem hlt⟩
                  have HKid : Hid (x.kids[k]? = some kid) := hkid
                  obtain ⟨b, off, a', c', rfl, hb, c0, c1, c2, c3, hin⟩ := hX.out.2.2 k kid hkid
                  have hsame := same_grown (B := B) HGr.out (by intro c e; cases e; exact hBC) (by omega)
                  rw [← hsame _ _ hb] at c0 c1 c2 c3
                  have HIn : Hid (ExIn B wr h kid a') := hin.same hsame
                  clear hin hsame hkid
                  obtain ⟨r2, hr2⟩ : ∃ r2, r2 = Sy.exW d kid m := ⟨_, rfl⟩
                  have HR2 : Hid (r2 = Sy.exW d kid m) := hr2
                  clear hr2
                  go_wp2_with fail
                  refine (ih h kid a' c' m (deep + 1) r2 _ (by have := HD.out; omega) (by omega) (HIn.out.same (same_grown (World.grownBy_alloc _ _ none) (by simp) (by have := HGr.out.size; omega))) (HCr.out.alloc _) hm HR2).mono ?_
                  rintro e w3 ⟨hg, hf⟩
                  have HG3 : Hid (w.grownBy w3 (some C)) := grown_trans HGr.out (alloc_grown hg)
                  cases r2 with
                  | ok m2 =>
                    obtain ⟨rfl, hck⟩ := hf
                    have HC3 : Hid (CK w3 C num m2) := hck
                    have hm2 : m2 ≤ 2000 := Sy.exW_le _ _ _ _ hm HR2.out.symm
                    have HR3 : Hid (r = Sy.runs (Sy.exW d) (x.kids.drop (k + 1)) m2) := HRr.out.trans (runs_ok HKid.out HR2.out.symm)
                    clear hg hck c0 c1 c2 c3
                    go_wp2
                    go_roundw
                    case rel => exact ⟨k + 1, m2, by omega, by go_num, hm2, HC3, HG3, HR3⟩
                    case measure => simp [intOf]; omega
                  | error er =>
                    obtain rfl : e = .panicked [fltE er num] := hf
                    have HR3 : Hid (r = .error er) := HRr.out.trans (runs_err HKid.out HR2.out.symm)
                    clear hg c0 c1 c2 c3
                    go_wp2
                    exact ⟨rfl, HG3.out, by rw [HR3.out]; rfl⟩
                · have HR3 : Hid (r = .ok m) := by
                    have := HRr.out
                    rw [List.drop_of_length_le (by omega)] at this
                    exact this
                  go_wp2
                  go_end0
                  exact ⟨HGr.out, by rw [HR3.out]; exact ⟨rfl, HCr.out⟩⟩
        · have e3 : (x.kind == 3) = false := by simp; omega
          have e19 : (x.kind == 19) = false := by simp; omega
          have e20 : (x.kind == 20) = true := by simp; omega
          clear h1
          go_enter Tryd.func67, Tryd.ntmps67
          go_wp2_with fail
          refine (node_any C n (d + 1) num x.kind 24 deep _ _ HC0 hn HD.out HR1).mono ?_
          rintro e w1 ⟨hg, hf⟩
          obtain ⟨rfl, hck⟩ := hf
          have HM : Hid (ExMid w C num x a c (n + 1) w1) := ⟨alloc_grown hg, hck, box_in hg (by simp; omega)⟩
          clear hg hck
          obtain ⟨b0, b1, b2, b3⟩ := four_cell HM.out.2.2
          go_wp2_with fail
          refine (Calls.ok0 (cname_any C (n + 1) num 0 x.name _ HM.out.2.1 hname HK) rfl).mono ?_
          rintro e w2 ⟨rfl, hg⟩
          have HM2 : Hid (ExMid w C num x a c (n + 1) w2) := HM.out.on hg
          clear hg b0 b1 b2 b3 HM
          have HM := HM2
          clear HM2
          obtain ⟨b0, b1, b2, b3⟩ := four_cell HM.out.2.2
          go_wp2_with fail
          refine (kidsOf_any x.kind _).mono ?_
          rintro e w2 ⟨rfl, rfl⟩
          by_cases hl : (x.kids.length : Int) < Sy.least x.kind
          · have HT2 : Hid (r = .error 5) := by
              have hx : exTail x = 5 := by unfold exTail; rw [if_pos (.inl hl)]
              have := HT.out; rw [hx, if_pos (by decide)] at this; exact this
            go_wp2_with fail
            refine (fail_any C (n + 1) num 5 _ HM.out.2.1).mono ?_
            rintro e w2 ⟨rfl, rfl⟩
            go_wp2
            exact ⟨rfl, HM.out.1, by rw [HT2.out]; rfl⟩
          · by_cases hm : Sy.most x.kind < (x.kids.length : Int)
            · have HT2 : Hid (r = .error 5) := by
                have hx : exTail x = 5 := by unfold exTail; rw [if_pos (.inr hm)]
                have := HT.out; rw [hx, if_pos (by decide)] at this; exact this
              have HK : Hid ((5 : Int) = if Sy.most x.kind < (x.kids.length : Int) then 5 else 0) := by rw [if_pos hm]; rfl
              clear hm
              go_wp2_with fail
              refine (Calls.bad0 5 (atMost_any C (n + 1) num x.kids.length (Sy.most x.kind) 5 _ HM.out.2.1 HK) rfl (by decide)).mono ?_
              rintro e w2 ⟨rfl, hg⟩
              go_wp2
              exact ⟨rfl, grown_trans HM.out.1 (grown_some hg _), by rw [HT2.out]; rfl⟩
            · have HT2 : Hid (r = Sy.runs (Sy.exW d) x.kids (n + 1)) := by
                have hx : exTail x = 0 := by unfold exTail; rw [if_neg (by omega)]
                have := HT.out; rw [hx, if_neg (by decide)] at this; exact this
              have HK : Hid ((0 : Int) = if Sy.most x.kind < (x.kids.length : Int) then 5 else 0) := by rw [if_neg hm]; rfl
              clear hm
              go_wp2_with fail
              refine (Calls.ok0 (atMost_any C (n + 1) num x.kids.length (Sy.most x.kind) 0 _ HM.out.2.1 HK) rfl).mono ?_
              rintro e w2 ⟨rfl, hg⟩
              have HM2 : Hid (ExMid w C num x a c (n + 1) w2) := HM.out.on hg
              clear hg b0 b1 b2 b3 hl
              obtain ⟨b0, b1, b2, b3⟩ := four_cell HM2.out.2.2
              go_wp2
              go_loopw [60] (fun i wr => ∃ k m : Nat, k ≤ x.kids.length ∧ i = .int .i64 k ∧ m ≤ 2000 ∧ Hid (CK wr C num m) ∧ Hid (w.grownBy wr (some C)) ∧ Hid (r = Sy.runs (Sy.exW d) (x.kids.drop k) m)) (fun i _ => x.kids.length - (intOf i).toNat)
              case atStart => exact ⟨0, n + 1, Nat.zero_le _, rfl, hn1, HM2.out.2.1, HM2.out.1, by rw [List.drop_zero]; exact HT2⟩
              case round =>
                obtain ⟨k, m, hk, rfl, hm, HCr, HGr, HRr⟩ := hrel
                clear b0 b1 b2 b3
                by_cases hlt : k < x.kids.length
                · obtain ⟨kid, hkid⟩ : ∃ kid, x.kids[k]? = some kid := ⟨_, List.getElem?_eq_getElem hlt⟩
                  have HKid : Hid (x.kids[k]? = some kid) := hkid
                  obtain ⟨b, off, a', c', rfl, hb, c0, c1, c2, c3, hin⟩ := hX.out.2.2 k kid hkid
                  have hsame := same_grown (B := B) HGr.out (by intro c e; cases e; exact hBC) (by omega)
                  rw [← hsame _ _ hb] at c0 c1 c2 c3
                  have HIn : Hid (ExIn B wr h kid a') := hin.same hsame
                  clear hin hsame hkid
                  obtain ⟨r2, hr2⟩ : ∃ r2, r2 = Sy.exW d kid m := ⟨_, rfl⟩
                  have HR2 : Hid (r2 = Sy.exW d kid m) := hr2
                  clear hr2
                  go_wp2_with fail
                  refine (ih h kid a' c' m (deep + 1) r2 _ (by have := HD.out; omega) (by omega) (HIn.out.same (same_grown (World.grownBy_alloc _ _ none) (by simp) (by have := HGr.out.size; omega))) (HCr.out.alloc _) hm HR2).mono ?_
                  rintro e w3 ⟨hg, hf⟩
                  have HG3 : Hid (w.grownBy w3 (some C)) := grown_trans HGr.out (alloc_grown hg)
                  cases r2 with
                  | ok m2 =>
                    obtain ⟨rfl, hck⟩ := hf
                    have HC3 : Hid (CK w3 C num m2) := hck
                    have hm2 : m2 ≤ 2000 := Sy.exW_le _ _ _ _ hm HR2.out.symm
                    have HR3 : Hid (r = Sy.runs (Sy.exW d) (x.kids.drop (k + 1)) m2) := HRr.out.trans (runs_ok HKid.out HR2.out.symm)
                    clear hg hck c0 c1 c2 c3
                    go_wp2
                    go_roundw
                    case rel => exact ⟨k + 1, m2, by omega, by go_num, hm2, HC3, HG3, HR3⟩
                    case measure => simp [intOf]; omega
                  | error er =>
                    obtain rfl : e = .panicked [fltE er num] := hf
                    have HR3 : Hid (r = .error er) := HRr.out.trans (runs_err HKid.out HR2.out.symm)
                    clear hg c0 c1 c2 c3
                    go_wp2
                    exact ⟨rfl, HG3.out, by rw [HR3.out]; rfl⟩
                · have HR3 : Hid (r = .ok m) := by
                    have := HRr.out
                    rw [List.drop_of_length_le (by omega)] at this
                    exact this
                  go_wp2
                  go_end0
                  exact ⟨HGr.out, by rw [HR3.out]; exact ⟨rfl, HCr.out⟩⟩
        · have e3 : (x.kind == 3) = false := by simp; omega
          have e19 : (x.kind == 19) = false := by simp; omega
          have e20 : (x.kind == 20) = false := by simp; omega
          have e22 : (x.kind == 22) = true := by simp; omega
          clear h1
          go_enter Tryd.func67, Tryd.ntmps67
          go_wp2_with fail
          refine (node_any C n (d + 1) num x.kind 24 deep _ _ HC0 hn HD.out HR1).mono ?_
          rintro e w1 ⟨hg, hf⟩
          obtain ⟨rfl, hck⟩ := hf
          have HM : Hid (ExMid w C num x a c (n + 1) w1) := ⟨alloc_grown hg, hck, box_in hg (by simp; omega)⟩
          clear hg hck
          obtain ⟨b0, b1, b2, b3⟩ := four_cell HM.out.2.2
          go_wp2_with fail
          refine (Calls.ok0 (cname_any C (n + 1) num 0 x.name _ HM.out.2.1 hname HK) rfl).mono ?_
          rintro e w2 ⟨rfl, hg⟩
          have HM2 : Hid (ExMid w C num x a c (n + 1) w2) := HM.out.on hg
          clear hg b0 b1 b2 b3 HM
          have HM := HM2
          clear HM2
          obtain ⟨b0, b1, b2, b3⟩ := four_cell HM.out.2.2
          go_wp2_with fail
          refine (kidsOf_any x.kind _).mono ?_
          rintro e w2 ⟨rfl, rfl⟩
          by_cases hl : (x.kids.length : Int) < Sy.least x.kind
          · have HT2 : Hid (r = .error 5) := by
              have hx : exTail x = 5 := by unfold exTail; rw [if_pos (.inl hl)]
              have := HT.out; rw [hx, if_pos (by decide)] at this; exact this
            go_wp2_with fail
            refine (fail_any C (n + 1) num 5 _ HM.out.2.1).mono ?_
            rintro e w2 ⟨rfl, rfl⟩
            go_wp2
            exact ⟨rfl, HM.out.1, by rw [HT2.out]; rfl⟩
          · by_cases hm : Sy.most x.kind < (x.kids.length : Int)
            · have HT2 : Hid (r = .error 5) := by
                have hx : exTail x = 5 := by unfold exTail; rw [if_pos (.inr hm)]
                have := HT.out; rw [hx, if_pos (by decide)] at this; exact this
              have HK : Hid ((5 : Int) = if Sy.most x.kind < (x.kids.length : Int) then 5 else 0) := by rw [if_pos hm]; rfl
              clear hm
              go_wp2_with fail
              refine (Calls.bad0 5 (atMost_any C (n + 1) num x.kids.length (Sy.most x.kind) 5 _ HM.out.2.1 HK) rfl (by decide)).mono ?_
              rintro e w2 ⟨rfl, hg⟩
              go_wp2
              exact ⟨rfl, grown_trans HM.out.1 (grown_some hg _), by rw [HT2.out]; rfl⟩
            · have HT2 : Hid (r = Sy.runs (Sy.exW d) x.kids (n + 1)) := by
                have hx : exTail x = 0 := by unfold exTail; rw [if_neg (by omega)]
                have := HT.out; rw [hx, if_neg (by decide)] at this; exact this
              have HK : Hid ((0 : Int) = if Sy.most x.kind < (x.kids.length : Int) then 5 else 0) := by rw [if_neg hm]; rfl
              clear hm
              go_wp2_with fail
              refine (Calls.ok0 (atMost_any C (n + 1) num x.kids.length (Sy.most x.kind) 0 _ HM.out.2.1 HK) rfl).mono ?_
              rintro e w2 ⟨rfl, hg⟩
              have HM2 : Hid (ExMid w C num x a c (n + 1) w2) := HM.out.on hg
              clear hg b0 b1 b2 b3 hl
              obtain ⟨b0, b1, b2, b3⟩ := four_cell HM2.out.2.2
              go_wp2
              go_loopw [60] (fun i wr => ∃ k m : Nat, k ≤ x.kids.length ∧ i = .int .i64 k ∧ m ≤ 2000 ∧ Hid (CK wr C num m) ∧ Hid (w.grownBy wr (some C)) ∧ Hid (r = Sy.runs (Sy.exW d) (x.kids.drop k) m)) (fun i _ => x.kids.length - (intOf i).toNat)
              case atStart => exact ⟨0, n + 1, Nat.zero_le _, rfl, hn1, HM2.out.2.1, HM2.out.1, by rw [List.drop_zero]; exact HT2⟩
              case round =>
                obtain ⟨k, m, hk, rfl, hm, HCr, HGr, HRr⟩ := hrel
                clear b0 b1 b2 b3
                by_cases hlt : k < x.kids.length
                · obtain ⟨kid, hkid⟩ : ∃ kid, x.kids[k]? = some kid := ⟨_, List.getElem?_eq_getElem hlt⟩
                  have HKid : Hid (x.kids[k]? = some kid) := hkid
                  obtain ⟨b, off, a', c', rfl, hb, c0, c1, c2, c3, hin⟩ := hX.out.2.2 k kid hkid
                  have hsame := same_grown (B := B) HGr.out (by intro c e; cases e; exact hBC) (by omega)
                  rw [← hsame _ _ hb] at c0 c1 c2 c3
                  have HIn : Hid (ExIn B wr h kid a') := hin.same hsame
                  clear hin hsame hkid
                  obtain ⟨r2, hr2⟩ : ∃ r2, r2 = Sy.exW d kid m := ⟨_, rfl⟩
                  have HR2 : Hid (r2 = Sy.exW d kid m) := hr2
                  clear hr2
                  go_wp2_with fail
                  refine (ih h kid a' c' m (deep + 1) r2 _ (by have := HD.out; omega) (by omega) (HIn.out.same (same_grown (World.grownBy_alloc _ _ none) (by simp) (by have := HGr.out.size; omega))) (HCr.out.alloc _) hm HR2).mono ?_
                  rintro e w3 ⟨hg, hf⟩
                  have HG3 : Hid (w.grownBy w3 (some C)) := grown_trans HGr.out (alloc_grown hg)
                  cases r2 with
                  | ok m2 =>
                    obtain ⟨rfl, hck⟩ := hf
                    have HC3 : Hid (CK w3 C num m2) := hck
                    have hm2 : m2 ≤ 2000 := Sy.exW_le _ _ _ _ hm HR2.out.symm
                    have HR3 : Hid (r = Sy.runs (Sy.exW d) (x.kids.drop (k + 1)) m2) := HRr.out.trans (runs_ok HKid.out HR2.out.symm)
                    clear hg hck c0 c1 c2 c3
                    go_wp2
                    go_roundw
                    case rel => exact ⟨k + 1, m2, by omega, by go_num, hm2, HC3, HG3, HR3⟩
                    case measure => simp [intOf]; omega
                  | error er =>
                    obtain rfl : e = .panicked [fltE er num] := hf
                    have HR3 : Hid (r = .error er) := HRr.out.trans (runs_err HKid.out HR2.out.symm)
                    clear hg c0 c1 c2 c3
                    go_wp2
                    exact ⟨rfl, HG3.out, by rw [HR3.out]; rfl⟩
                · have HR3 : Hid (r = .ok m) := by
                    have := HRr.out
                    rw [List.drop_of_length_le (by omega)] at this
                    exact this
                  go_wp2
                  go_end0
                  exact ⟨HGr.out, by rw [HR3.out]; exact ⟨rfl, HCr.out⟩⟩
    · have e1 : (x.kind == 1) = false := by simp; omega
      have e2 : (x.kind == 2) = false := by simp; omega
      have e3 : (x.kind == 3) = false := by simp; omega
      have e19 : (x.kind == 19) = false := by simp; omega
      have e20 : (x.kind == 20) = false := by simp; omega
      have e22 : (x.kind == 22) = false := by simp; omega
      have HT : Hid (r = if exTail x ≠ 0 then .error (exTail x) else Sy.runs (Sy.exW d) x.kids (n + 1)) := by
        have hh := exHead_else h1
        by_cases ht : exTail x = 0
        · rw [if_neg (by simpa using ht)]; exact hr.out.trans (exW_kids HN.out (by rw [hh, ht]))
        · rw [if_pos (by simpa using ht)]; exact hr.out.trans (exW_head HN.out _ hh ht)
      clear h1
      go_enter Tryd.func67, Tryd.ntmps67
      go_wp2_with fail
      refine (node_any C n (d + 1) num x.kind 24 deep _ _ HC0 hn HD.out HR1).mono ?_
      rintro e w1 ⟨hg, hf⟩
      obtain ⟨rfl, hck⟩ := hf
      have HM : Hid (ExMid w C num x a c (n + 1) w1) := ⟨alloc_grown hg, hck, box_in hg (by simp; omega)⟩
      clear hg hck
      obtain ⟨b0, b1, b2, b3⟩ := four_cell HM.out.2.2
      go_wp2_with fail
      refine (kidsOf_any x.kind _).mono ?_
      rintro e w2 ⟨rfl, rfl⟩
      by_cases hl : (x.kids.length : Int) < Sy.least x.kind
      · have HT2 : Hid (r = .error 5) := by
          have hx : exTail x = 5 := by unfold exTail; rw [if_pos (.inl hl)]
          have := HT.out; rw [hx, if_pos (by decide)] at this; exact this
        go_wp2_with fail
        refine (fail_any C (n + 1) num 5 _ HM.out.2.1).mono ?_
        rintro e w2 ⟨rfl, rfl⟩
        go_wp2
        exact ⟨rfl, HM.out.1, by rw [HT2.out]; rfl⟩
      · by_cases hm : Sy.most x.kind < (x.kids.length : Int)
        · have HT2 : Hid (r = .error 5) := by
            have hx : exTail x = 5 := by unfold exTail; rw [if_pos (.inr hm)]
            have := HT.out; rw [hx, if_pos (by decide)] at this; exact this
          have HK : Hid ((5 : Int) = if Sy.most x.kind < (x.kids.length : Int) then 5 else 0) := by rw [if_pos hm]; rfl
          clear hm
          go_wp2_with fail
          refine (Calls.bad0 5 (atMost_any C (n + 1) num x.kids.length (Sy.most x.kind) 5 _ HM.out.2.1 HK) rfl (by decide)).mono ?_
          rintro e w2 ⟨rfl, hg⟩
          go_wp2
          exact ⟨rfl, grown_trans HM.out.1 (grown_some hg _), by rw [HT2.out]; rfl⟩
        · have HT2 : Hid (r = Sy.runs (Sy.exW d) x.kids (n + 1)) := by
            have hx : exTail x = 0 := by unfold exTail; rw [if_neg (by omega)]
            have := HT.out; rw [hx, if_neg (by decide)] at this; exact this
          have HK : Hid ((0 : Int) = if Sy.most x.kind < (x.kids.length : Int) then 5 else 0) := by rw [if_neg hm]; rfl
          clear hm
          go_wp2_with fail
          refine (Calls.ok0 (atMost_any C (n + 1) num x.kids.length (Sy.most x.kind) 0 _ HM.out.2.1 HK) rfl).mono ?_
          rintro e w2 ⟨rfl, hg⟩
          have HM2 : Hid (ExMid w C num x a c (n + 1) w2) := HM.out.on hg
          clear hg b0 b1 b2 b3 hl
          obtain ⟨b0, b1, b2, b3⟩ := four_cell HM2.out.2.2
          go_wp2
          go_loopw [60] (fun i wr => ∃ k m : Nat, k ≤ x.kids.length ∧ i = .int .i64 k ∧ m ≤ 2000 ∧ Hid (CK wr C num m) ∧ Hid (w.grownBy wr (some C)) ∧ Hid (r = Sy.runs (Sy.exW d) (x.kids.drop k) m)) (fun i _ => x.kids.length - (intOf i).toNat)
          case atStart => exact ⟨0, n + 1, Nat.zero_le _, rfl, hn1, HM2.out.2.1, HM2.out.1, by rw [List.drop_zero]; exact HT2⟩
          case round =>
            obtain ⟨k, m, hk, rfl, hm, HCr, HGr, HRr⟩ := hrel
            clear b0 b1 b2 b3
            by_cases hlt : k < x.kids.length
            · obtain ⟨kid, hkid⟩ : ∃ kid, x.kids[k]? = some kid := ⟨_, List.getElem?_eq_getElem hlt⟩
              have HKid : Hid (x.kids[k]? = some kid) := hkid
              obtain ⟨b, off, a', c', rfl, hb, c0, c1, c2, c3, hin⟩ := hX.out.2.2 k kid hkid
              have hsame := same_grown (B := B) HGr.out (by intro c e; cases e; exact hBC) (by omega)
              rw [← hsame _ _ hb] at c0 c1 c2 c3
              have HIn : Hid (ExIn B wr h kid a') := hin.same hsame
              clear hin hsame hkid
              obtain ⟨r2, hr2⟩ : ∃ r2, r2 = Sy.exW d kid m := ⟨_, rfl⟩
              have HR2 : Hid (r2 = Sy.exW d kid m) := hr2
              clear hr2
              go_wp2_with fail
              refine (ih h kid a' c' m (deep + 1) r2 _ (by have := HD.out; omega) (by omega) (HIn.out.same (same_grown (World.grownBy_alloc _ _ none) (by simp) (by have := HGr.out.size; omega))) (HCr.out.alloc _) hm HR2).mono ?_
              rintro e w3 ⟨hg, hf⟩
              have HG3 : Hid (w.grownBy w3 (some C)) := grown_trans HGr.out (alloc_grown hg)
              cases r2 with
              | ok m2 =>
                obtain ⟨rfl, hck⟩ := hf
                have HC3 : Hid (CK w3 C num m2) := hck
                have hm2 : m2 ≤ 2000 := Sy.exW_le _ _ _ _ hm HR2.out.symm
                have HR3 : Hid (r = Sy.runs (Sy.exW d) (x.kids.drop (k + 1)) m2) := HRr.out.trans (runs_ok HKid.out HR2.out.symm)
                clear hg hck c0 c1 c2 c3
                go_wp2
                go_roundw
                case rel => exact ⟨k + 1, m2, by omega, by go_num, hm2, HC3, HG3, HR3⟩
                case measure => simp [intOf]; omega
              | error er =>
                obtain rfl : e = .panicked [fltE er num] := hf
                have HR3 : Hid (r = .error er) := HRr.out.trans (runs_err HKid.out HR2.out.symm)
                clear hg c0 c1 c2 c3
                go_wp2
                exact ⟨rfl, HG3.out, by rw [HR3.out]; rfl⟩
            · have HR3 : Hid (r = .ok m) := by
                have := HRr.out
                rw [List.drop_of_length_le (by omega)] at this
                exact this
              go_wp2
              go_end0
              exact ⟨HGr.out, by rw [HR3.out]; exact ⟨rfl, HCr.out⟩⟩
  · have hr1' : r1 = .error (Sy.nodeW x.kind 24 (d + 1) n) := by rw [hr1]; unfold nodeR; rw [if_pos (by simpa using hnode)]
    have HR : Hid (r = .error (Sy.nodeW x.kind 24 (d + 1) n)) := hr.out.trans (exW_bad (by simpa using hnode))
    obtain ⟨er, her⟩ : ∃ er, er = Sy.nodeW x.kind 24 (d + 1) n := ⟨_, rfl⟩
    rw [← her] at hr1' HR
    clear hr1 hnode her
    subst hr1'
    go_enter Tryd.func67, Tryd.ntmps67
    go_wp2_with fail
    refine (node_any C n (d + 1) num x.kind 24 deep _ _ HC0 hn HD.out HR1).mono ?_
    rintro e w1 ⟨hg, hf⟩
    obtain rfl : e = .panicked [fltE er num] := hf
    go_wp2
    exact ⟨rfl, alloc_grown hg, by rw [HR.out]; rfl⟩

theorem expr_any (C B : Nat) (num : Int) (hBC : B ≤ C) : ∀ (d : Nat) (h : Nat) (x : Sy.Ex) (a : Option Addr) (c n : Nat) (deep : Int) (r : Except Int Nat) (w : World), deep = 41 - d → d ≤ 41 → Hid (ExIn B w h x a) → Hid (CK w C num n) → n ≤ 2000 → Hid (r = Sy.exW d x n) →
      Calls Tryd.prog 67 #[.pointer (some ⟨C, 0, none⟩), exV x a c, .int .i64 deep] w fun e w' => w.grownBy w' (some C) ∧ Fate C num r e w'
  | _, 0, _, _, _, _, _, _, _, _, _, hX, _, _, _ => hX.out.elim
  | d + 1, h + 1, x, a, c, n, deep, r, w, hdeep, hd, hX, hC, hn, hr => expr_step C B d num hBC (expr_any C B num hBC d) h x a c n deep r w hdeep hd hX hC hn hr
  | 0, _ + 1, x, a, c, n, deep, r, w, hdeep, _, _, hC, hn, hr => expr_zero C num x a c n deep r w hdeep hC hn hr

end Go.Proofs.YtbbklahhnepiaaaDoor
