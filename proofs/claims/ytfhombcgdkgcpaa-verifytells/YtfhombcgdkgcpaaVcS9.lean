/- The document's answer, chapter 7, walked: take. -/
import Derived.Test.YtfhombcgdkgcpaaVc30
import Derived.Lib.Bytes
import Derived.Test.YtfhombcgdkgcpaaVcS5
namespace Go.Proofs.Ytfhombcgdkgcpaa
open Go.RowKit
namespace Vf
/-- What the document's take leaves: what is wanted, and the stack, the top one first. -/
def rtk : List UInt8 → List UInt8 → UInt8 → Except Int (List UInt8)
  | [], st, _ => .ok st
  | _ :: _, [], _ => .error 12
  | c :: ws, x :: st, last =>
    if c = 42 then rtk ws st last
    else if c = 63 then (if (x ≠ 110 ∧ x ≠ 98) ∨ (last ≠ 0 ∧ last ≠ x) then .error 9 else rtk ws st x)
    else if x = c then rtk ws st last else .error 9
end Vf
def RtkE (r : Except Int (List UInt8)) (e : Ending) : Prop :=
  match r with
  | .ok l => ∃ s : ByteArray, s.data.toList = l.reverse ∧ e = .returned (.tuple #[.string s, .int .i64 0])
  | .error n => e = .returned (.tuple #[.string ⟨#[]⟩, .int .i64 n])
/-- At the head of take's loop. -/
structure RkAt (t : ByteArray) (R : Except Int (List UInt8)) (s : ByteArray) (last : UInt8) (st wt : List UInt8) : Prop where
  stE : s.data.toList = st.reverse
  wtE : ∃ pre, t.data.toList = wt.reverse ++ pre
  rest : R = Vf.rtk wt st last
  few : s.size ≤ 1000
theorem list_size (s : ByteArray) : s.data.toList.length = s.size := by rw [Array.length_toList]; rfl
theorem byte_at {s : ByteArray} {l : List UInt8} (h : s.data.toList = l) {k : Nat} {x : UInt8} (hx : l[k]? = some x) : ∃ hk : k < s.size, s[k] = x := by
  obtain ⟨h1, h2⟩ := List.getElem?_eq_some_iff.1 hx
  have hk : k < s.size := by rw [← list_size, h]; exact h1
  refine ⟨hk, ?_⟩
  subst h
  have : s.data.toList[k]'h1 = s[k] := by simp [ByteArray.getElem_eq_getElem_data]
  rw [← this]
  exact h2
theorem extract_take (s : ByteArray) (n : Nat) : (s.extract 0 n).data.toList = s.data.toList.take n := by
  rw [ByteArray.data_extract]; simp
theorem bytes_nil {s : ByteArray} (h : s.data.toList = []) : s = ⟨#[]⟩ := by
  apply ByteArray.ext
  simpa using h
theorem bytes_some {s : ByteArray} (h : 0 < s.size) : s.toList.isEmpty = false := by
  rw [Lib.toList_data]
  cases hl : s.data.toList with
  | nil => rw [← list_size, hl] at h; exact absurd h (by decide)
  | cons _ _ => rfl
theorem u8_ne {c n : UInt8} (h : ¬ c = n) : ((c.toNat : Int) == (n.toNat : Int)) = false := by
  rw [Bool.eq_false_iff]
  intro e
  rw [beq_iff_eq] at e
  exact h (UInt8.toNat_inj.1 (by omega))
theorem u8_bne {c n : UInt8} (h : ¬ c = n) : ((c.toNat : Int) != (n.toNat : Int)) = true := by
  unfold bne
  rw [u8_ne h]
  rfl


set_option maxRecDepth 100000 in
set_option maxHeartbeats 2000000 in
theorem rtake_any (s t : ByteArray) (st wt : List UInt8) (w : World) (hs : Hid (s.data.toList = st.reverse)) (ht : Hid (t.data.toList = wt.reverse)) (hsl : s.size ≤ 1000) (htl : t.size ≤ 1000) (R : Except Int (List UInt8)) (hR : Hid (R = Vf.rtk wt st 0)) :
    Calls Try.prog 34 #[.string s, .string t] w fun e w' => RtkE R e ∧ w' = w := by
  have hlen : t.size = wt.length := by rw [← list_size, ht.out]; simp
  go_enter Try.func34, Try.ntmps34
  go_wp2
  go_loopw [0, 6, 7] (fun v0 v6 v7 wr => ∃ (s' : ByteArray) (last : UInt8) (st' wt' : List UInt8), v0 = .string s' ∧ v6 = .int .u8 (last.toNat : Int) ∧ v7 = .int .i64 ((wt'.length : Int) - 1) ∧ RkAt t R s' last st' wt' ∧ wr = w) (fun _ _ v _ => (intOf v + 1).toNat)
  case atStart => exact ⟨s, 0, st, wt, rfl, rfl, rfl, ⟨hs.out, ⟨[], by rw [ht.out]; simp⟩, hR.out, hsl⟩, rfl⟩
  case round =>
    clear hs hR hsl
    obtain ⟨s', last, st', wt', rfl, rfl, rfl, hA, rfl⟩ := hrel
    have HA := hide hA
    clear hA
    match wt' with
    | [] =>
      have HR : Hid (R = .ok st') := HA.out.rest
      go_wp2
      refine bodyPost_ret (v := .tuple #[.string s', .int .i64 0]) (by simp [results, Try.results34, go_sem]) rfl ?_
      rw [HR.out]
      exact ⟨⟨s', HA.out.stE, rfl⟩, rfl⟩
    | c :: ws =>
      obtain ⟨pre, hpre⟩ := HA.out.wtE
      obtain ⟨htk, htc⟩ := byte_at hpre (k := ws.length) (x := c) (by simp)
      match st' with
      | [] =>
        have HR : Hid (R = .error 12) := HA.out.rest
        obtain rfl : s' = ⟨#[]⟩ := bytes_nil HA.out.stE
        clear hpre
        go_wp2
        refine bodyPost_ret (v := .tuple #[.string ⟨#[]⟩, .int .i64 12]) (by simp [results, Try.results34, go_sem]) rfl ?_
        rw [HR.out]
        exact ⟨rfl, rfl⟩
      | x :: r =>
        have hst : s'.data.toList = r.reverse ++ [x] := by rw [HA.out.stE]; simp
        have hsz : s'.size = r.length + 1 := by rw [← list_size, hst]; simp
        obtain ⟨hsk, hsx⟩ := byte_at hst (k := r.length) (x := x) (by simp)
        have hne : s'.toList.isEmpty = false := bytes_some (by omega)
        have h1000 := HA.out.few
        have hwl : ws.length < 1000 := by omega
        obtain ⟨s2, hs2⟩ : ∃ s2, s'.extract 0 r.length = s2 := ⟨_, rfl⟩
        have HS2 : Hid (s2.data.toList = r.reverse) := by
          unfold Hid
          rw [← hs2, extract_take, hst]
          simp
        clear hst
        have HW : Hid (∃ pre, t.data.toList = ws.reverse ++ pre) := ⟨c :: pre, by rw [hpre]; simp⟩
        clear hpre
        have HRR : Hid (R = Vf.rtk (c :: ws) (x :: r) last) := HA.out.rest
        have hs2z : s2.size ≤ 1000 := by rw [← list_size, HS2.out]; simp; omega
        clear HA
        by_cases h42 : c = 42
        · have HR : Hid (R = Vf.rtk ws r last) := by rw [HRR.out, Vf.rtk, if_pos h42]; rfl
          clear HRR
          subst h42
          go_wp2
          go_roundw
          case rel => exact ⟨s2, last, r, ws, rfl, rfl, rfl, ⟨HS2.out, HW.out, HR.out, hs2z⟩, by trivial⟩
          case measure => (simp [intOf] <;> omega)
        have n42 : ((c.toNat : Int) == 42) = false := u8_ne (n := 42) h42
        have HR1 : Hid (R = if c = 63 then (if (x ≠ 110 ∧ x ≠ 98) ∨ (last ≠ 0 ∧ last ≠ x) then .error 9 else Vf.rtk ws r x) else if x = c then Vf.rtk ws r last else .error 9) := by rw [HRR.out, Vf.rtk, if_neg h42]; rfl
        clear HRR h42
        by_cases h63 : c = 63
        · have HR2 : Hid (R = if (x ≠ 110 ∧ x ≠ 98) ∨ (last ≠ 0 ∧ last ≠ x) then .error 9 else Vf.rtk ws r x) := by rw [HR1.out, if_pos h63]; rfl
          clear HR1
          subst h63
          by_cases hx : x = 110
          · skip
            by_cases hl : last = 0
            · have HR : Hid (R = Vf.rtk ws r x) := by rw [HR2.out, if_neg (by rw [hx, hl]; decide)]; rfl
              clear HR2
              subst hl hx
              go_wp2
              go_roundw
              case rel => exact ⟨s2, _, r, ws, rfl, rfl, rfl, ⟨HS2.out, HW.out, HR.out, hs2z⟩, by trivial⟩
              case measure => (simp [intOf] <;> omega)
            by_cases hl2 : last = x
            · have HR : Hid (R = Vf.rtk ws r x) := by rw [HR2.out, if_neg (by rw [hl2, hx]; decide)]; rfl
              clear HR2 hl
              subst hl2
              subst hx
              go_wp2
              go_roundw
              case rel => exact ⟨s2, _, r, ws, rfl, rfl, rfl, ⟨HS2.out, HW.out, HR.out, hs2z⟩, by trivial⟩
              case measure => (simp [intOf] <;> omega)
            · have HR : Hid (R = .error 9) := by rw [HR2.out, if_pos (.inr ⟨hl, hl2⟩)]; rfl
              have l1 : ((last.toNat : Int) != 0) = true := u8_bne (c := last) (n := 0) hl
              have l2 : ((last.toNat : Int) != 110) = true := u8_bne (c := last) (n := 110) (by rw [← hx]; exact hl2)
              clear HR2 hl hl2
              subst hx
              go_wp2
              refine bodyPost_ret (v := .tuple #[.string ⟨#[]⟩, .int .i64 9]) (by simp [results, Try.results34, go_sem]) rfl ?_
              rw [HR.out]
              exact ⟨rfl, rfl⟩
          by_cases hx2 : x = 98
          · clear hx
            have hx := hx2
            clear hx2
            by_cases hl : last = 0
            · have HR : Hid (R = Vf.rtk ws r x) := by rw [HR2.out, if_neg (by rw [hx, hl]; decide)]; rfl
              clear HR2
              subst hl hx
              go_wp2
              go_roundw
              case rel => exact ⟨s2, _, r, ws, rfl, rfl, rfl, ⟨HS2.out, HW.out, HR.out, hs2z⟩, by trivial⟩
              case measure => (simp [intOf] <;> omega)
            by_cases hl2 : last = x
            · have HR : Hid (R = Vf.rtk ws r x) := by rw [HR2.out, if_neg (by rw [hl2, hx]; decide)]; rfl
              clear HR2 hl
              subst hl2
              subst hx
              go_wp2
              go_roundw
              case rel => exact ⟨s2, _, r, ws, rfl, rfl, rfl, ⟨HS2.out, HW.out, HR.out, hs2z⟩, by trivial⟩
              case measure => (simp [intOf] <;> omega)
            · have HR : Hid (R = .error 9) := by rw [HR2.out, if_pos (.inr ⟨hl, hl2⟩)]; rfl
              have l1 : ((last.toNat : Int) != 0) = true := u8_bne (c := last) (n := 0) hl
              have l2 : ((last.toNat : Int) != 98) = true := u8_bne (c := last) (n := 98) (by rw [← hx]; exact hl2)
              clear HR2 hl hl2
              subst hx
              go_wp2
              refine bodyPost_ret (v := .tuple #[.string ⟨#[]⟩, .int .i64 9]) (by simp [results, Try.results34, go_sem]) rfl ?_
              rw [HR.out]
              exact ⟨rfl, rfl⟩
          · have HR : Hid (R = .error 9) := by rw [HR2.out, if_pos (.inl ⟨hx, hx2⟩)]; rfl
            have x1 : ((x.toNat : Int) != 110) = true := u8_bne (c := x) (n := 110) hx
            have x2 : ((x.toNat : Int) != 98) = true := u8_bne (c := x) (n := 98) hx2
            clear HR2 hx hx2
            go_wp2
            refine bodyPost_ret (v := .tuple #[.string ⟨#[]⟩, .int .i64 9]) (by simp [results, Try.results34, go_sem]) rfl ?_
            rw [HR.out]
            exact ⟨rfl, rfl⟩
        · have n63 : ((c.toNat : Int) == 63) = false := u8_ne (n := 63) h63
          have HR2 : Hid (R = if x = c then Vf.rtk ws r last else .error 9) := by rw [HR1.out, if_neg h63]; rfl
          clear HR1 h63
          by_cases hx : x = c
          · have HR : Hid (R = Vf.rtk ws r last) := by rw [HR2.out, if_pos hx]; rfl
            clear HR2
            subst hx
            go_wp2
            go_roundw
            case rel => exact ⟨s2, last, r, ws, rfl, rfl, rfl, ⟨HS2.out, HW.out, HR.out, hs2z⟩, by trivial⟩
            case measure => (simp [intOf] <;> omega)
          · have HR : Hid (R = .error 9) := by rw [HR2.out, if_neg hx]; rfl
            have x1 : ((x.toNat : Int) != (c.toNat : Int)) = true := u8_bne hx
            clear HR2 hx
            go_wp2
            refine bodyPost_ret (v := .tuple #[.string ⟨#[]⟩, .int .i64 9]) (by simp [results, Try.results34, go_sem]) rfl ?_
            rw [HR.out]
            exact ⟨rfl, rfl⟩
end Go.Proofs.Ytfhombcgdkgcpaa
/- The document's answer, chapter 7, walked: letters; Needs's params. -/
namespace Go.Proofs.Ytfhombcgdkgcpaa
open Go.RowKit
namespace Vf
/-- A type's letter. -/
def ltr (t : Int) : UInt8 := if t = 1 then 110 else if t = 2 then 98 else UInt8.ofNat (55 + t).toNat
/-- Types that have letters of their own. -/
def Lt (t : Int) : Prop := t = 1 ∨ t = 2 ∨ (10 ≤ t ∧ t < 40)
theorem ltr_gen {t : Int} (h : 10 ≤ t) : ltr t = UInt8.ofNat (55 + t).toNat := by unfold ltr; rw [if_neg (by omega), if_neg (by omega)]
theorem ltr_inj {s t : Int} (hs : Lt s) (ht : Lt t) (h : ltr s = ltr t) : s = t := by
  have key : ∀ x : Int, Lt x → ((ltr x).toNat : Int) = if x = 1 then 110 else if x = 2 then 98 else 55 + x := by
    rintro x (rfl | rfl | hx)
    · rfl
    · rfl
    · rw [ltr_gen hx.1, if_neg (by omega), if_neg (by omega), UInt8.toNat_ofNat']
      omega
  have h1 := key s hs
  have h2 := key t ht
  rw [h] at h1
  rw [h1] at h2
  rcases hs with rfl | rfl | hs <;> rcases ht with rfl | rfl | ht
  · rfl
  · exact absurd h2 (by decide)
  · rw [if_pos rfl, if_neg (by omega), if_neg (by omega)] at h2; omega
  · exact absurd h2 (by decide)
  · rfl
  · rw [if_neg (by decide), if_pos rfl, if_neg (by omega), if_neg (by omega)] at h2; omega
  · rw [if_neg (by omega), if_neg (by omega), if_pos rfl] at h2; omega
  · rw [if_neg (by omega), if_neg (by omega), if_neg (by decide), if_pos rfl] at h2; omega
  · rw [if_neg (by omega), if_neg (by omega), if_neg (by omega), if_neg (by omega)] at h2; omega
end Vf

theorem rletter_any (t : Int) (ht : Vf.Lt t) (w : World) (s : ByteArray) (hs : Hid (s = ⟨#[Vf.ltr t]⟩)) : Calls Try.prog 33 #[.int .i64 t] w fun e w' => e = .returned (.string s) ∧ w.grownBy w' none := by
  rw [hs.out]
  rcases ht with rfl | rfl | h
  · refine (rletter_one w).mono ?_
    rintro e w' ⟨rfl, rfl⟩
    exact ⟨rfl, World.grownBy.refl _ _⟩
  · refine (rletter_two w).mono ?_
    rintro e w' ⟨rfl, rfl⟩
    exact ⟨rfl, World.grownBy.refl _ _⟩
  · rw [Vf.ltr_gen h.1]
    exact rletter_gen t h.1 h.2 w

/-- At the head of params's loop. -/
structure PaAt (l : List Int) (w : World) (j : Nat) (s : ByteArray) (W : World) : Prop where
  le : j ≤ l.length
  grown : w.grownBy W none
  txt : s.data.toList = (l.take j).map Vf.ltr

set_option maxRecDepth 100000 in
set_option maxHeartbeats 2000000 in
theorem rparams_any (m : Vf.Md) (ab au : Option Addr) (cb cu B M : Nat) (k : Nat) (u : Vf.Un) (w : World) (hmd : Hid (ModIn B w m ab au)) (hB : B ≤ w.heap.size) (hM : Hid (w.heap[M]? = some (amO m ab au cb cu))) (hu : Hid (m.units[k]? = some u)) (h0 : 0 ≤ u.params) (h6 : u.params ≤ 6) (hl : u.params ≤ u.locals.length) (hlt : Hid (∀ t ∈ u.locals, Vf.Lt t)) :
    Calls Try.prog 47 #[.int .i64 (k : Int), .pointer (some ⟨M, 0, none⟩)] w fun e w' => (∃ s : ByteArray, s.data.toList = (u.locals.take u.params.toNat).map Vf.ltr ∧ e = .returned (.string s)) ∧ w.grownBy w' none := by
  obtain ⟨y0, y1, _⟩ := am_cells hM.out
  obtain ⟨b, off, al, cl, ac, cc, ha, hb, hui, q0, q1, q2, q3, q4, q5⟩ := hmd.out.units k u hu.out
  obtain ⟨p, hp⟩ := nn_of h0
  have hk1 : k < m.units.length := (List.getElem?_eq_some_iff.1 hu.out).1
  have hk2 : (k : Int) < (m.units.length : Int) := by omega
  have hpl : p ≤ u.locals.length := by omega
  have hpc : p ≤ cl := by have := hui.caps.1; omega
  have hp6 : p ≤ 6 := by omega
  rw [hp] at q1
  have HP := hide hp
  obtain ⟨l, hL⟩ : ∃ l : List Int, l = u.locals.take p := ⟨_, rfl⟩
  have hll : l.length = p := by rw [hL, List.length_take]; omega
  have HIN : Hid (∀ W, Low B w W → IntsIn B W l al) := fun W hW i x hx => by
    refine (hui.locals.low hW) i x ?_
    rw [hL] at hx
    rw [List.getElem?_take] at hx
    split at hx
    · exact hx
    · cases hx
  have HLT : Hid (∀ t ∈ l, Vf.Lt t) := fun t ht => hlt.out t (by rw [hL] at ht; exact List.mem_of_mem_take ht)
  have HL : Hid (u.locals.take u.params.toNat = l) := by
    unfold Hid
    rw [hp, hL]
    rfl
  have HLL := hide hll
  clear hui hL hp h0 h6 hl hlt hll
  subst ha
  go_enter Try.func47, Try.ntmps47
  go_wp2_with fail
  go_quiet (fail)
  go_wp2_with fail
  go_loopw [4, 21] (fun v4 v wr => ∃ (j : Nat) (s : ByteArray), v = .int .i64 j ∧ v4 = .string s ∧ PaAt l w j s wr) (fun _ v _ => p - (intOf v).toNat)
  case atStart => exact ⟨0, ⟨#[]⟩, rfl, rfl, Nat.zero_le _, grown0_drewN (World.grownBy.refl _ _) nq, rfl⟩
  case round =>
    clear y0 y1 q0 q1 q2 q3 q4 q5
    obtain ⟨j, s, rfl, rfl, hA⟩ := hrel
    have HA := hide hA
    have hjp : j ≤ p := by have := hA.le; have := HLL.out; omega
    have hsz : s.size = j := by
      rw [← list_size, hA.txt]
      have := hA.le
      simp
      omega
    have HSZ := hide hsz
    clear hA hsz
    by_cases hj : j < p
    · obtain ⟨t, ht⟩ : ∃ t, l[j]? = some t := ⟨_, List.getElem?_eq_getElem (by rw [HLL.out]; exact hj)⟩
      obtain ⟨h64, bl, ol, hal, hbl, ct⟩ := HIN.out wr (low0 HA.out.grown hB) j t ht
      have HT : Hid (Vf.Lt t) := HLT.out t (List.mem_of_getElem? ht)
      have HTT := hide ht
      obtain ⟨s1, hs1⟩ : ∃ s1 : ByteArray, s1 = ⟨#[Vf.ltr t]⟩ := ⟨_, rfl⟩
      have HS1 := hide hs1
      have hz1 : s1.size = 1 := by rw [hs1]; rfl
      have hz : ¬ 9223372036854775807 < s.size + s1.size := by have := HSZ.out; omega
      have HZ1 := hide hz1
      clear ht hs1 hz1
      subst hal
      go_wp2_with fail
      refine (rletter_any t HT.out _ s1 HS1).mono ?_
      rintro e w2 ⟨rfl, hg2⟩
      have HG2 : Hid (w.grownBy w2 none) := grown0_tr' HA.out.grown hg2
      clear hg2
      go_wp2
      go_roundw
      case rel =>
        refine ⟨j + 1, s ++ s1, by go_num, rfl, by have := HLL.out; omega, HG2.out, ?_⟩
        obtain ⟨hj2, hjt⟩ := List.getElem?_eq_some_iff.1 HTT.out
        rw [List.take_succ_eq_append_getElem hj2, hjt]
        simp [ByteArray.data_append, HA.out.txt, HS1.out]
      case measure => simp [intOf]; omega
    · have hje : j = p := by omega
      go_wp2
      go_ret
      refine ⟨⟨s, ?_, rfl⟩, HA.out.grown⟩
      rw [HA.out.txt, HL.out, List.take_of_length_le (by rw [HLL.out]; omega)]
end Go.Proofs.Ytfhombcgdkgcpaa
