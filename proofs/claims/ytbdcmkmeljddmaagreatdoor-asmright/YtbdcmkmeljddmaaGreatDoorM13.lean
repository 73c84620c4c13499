/- The walk of yieldlaw13's alive: the small listing is read. -/
import Derived.Test.YtbdcmkmeljddmaaGreatDoorM12
import Derived.Test.YtbdcmkmeljddmaaGreatDoorM6
namespace Go.Proofs.YtbdcmkmeljddmaaGreatDoor.Aw
open Go.RowKit As

def aliveM : Vf.Md := ⟨[⟨1, 2⟩], [⟨4, 0, [1], 0, 0, [⟨1, 0, -7⟩, ⟨25, 0, 0⟩]⟩]⟩
abbrev aliveT : By := [98, 111, 120, 32, 49, 32, 50, 10, 116, 97, 115, 107, 32, 48, 32, 48, 32, 48, 32, 49, 10, 9, 112, 117, 115, 104, 32, 45, 55, 10, 9, 101, 110, 100, 10]
theorem dig0 : dig 0 = [48] := by unfold dig; rw [if_neg (by decide), digN, if_pos (by decide)]; rfl
theorem dig1 : dig 1 = [49] := by unfold dig; rw [if_neg (by decide), digN, if_pos (by decide)]; rfl
theorem dig2 : dig 2 = [50] := by unfold dig; rw [if_neg (by decide), digN, if_pos (by decide)]; rfl
theorem dig7 : dig (-7) = [45, 55] := by unfold dig; rw [if_pos (by decide), digN, if_pos (by decide)]; rfl
theorem alive_lines : text (lines aliveM) = aliveT := by
  simp [lines, linesU, aliveM, unL, bxL, inL, wordOf, tab, args, headW, boxW, taskW, join, text, dig0, dig1, dig2, dig7]
theorem alive_ok : OkM aliveM := by
  refine ⟨fun b hb => ?_, fun u hu => ?_⟩
  · simp [aliveM] at hb; subst hb; decide
  · simp [aliveM] at hu
    subst hu
    refine ⟨by decide, by decide, fun i hi => ?_⟩
    simp at hi
    rcases hi with rfl | rfl
    · exact ⟨by decide, by decide, by decide⟩
    · exact ⟨by decide, by decide, by decide⟩
theorem alive_read : readA aliveT = ((0, 0), aliveM) := by
  have h1 := run_lines alive_ok
  have h2 : bare aliveM = aliveM := by simp [bare, aliveM, bareU, bareI, wordOf, tab]
  rw [h2] at h1
  exact read_ok.2 ⟨by decide, lines aliveM, alive_lines.symm, lines_none (said_of alive_ok), h1⟩

set_option maxHeartbeats 1000000 in
set_option maxRecDepth 100000 in
theorem alive_any (B : Nat) (w : World) (hB : Hid (B ≤ w.heap.size)) (hg : Hid (GV B w)) :
    Calls Tryz.prog 4 #[] w fun e w' => e = .returned (.bool true) ∧ Below w.heap.size w w' := by
  have hr := read_any B aliveT w hB hg
  unfold ReadV at hr
  rw [alive_read] at hr
  have HR := hide hr
  clear hr
  go_enter Tryz.func4, Tryz.ntmps4
  go_wp2_with fail
  refine HR.out.mono ?_
  rintro e w1 ⟨ab, cb, au, cu, rfl, hM, hb⟩
  obtain ⟨b, off, al, cl, ac, cc, rfl, hbl, hU, _, _, _, _, _, c5⟩ := hM.units 0 ⟨4, 0, [1], 0, 0, [⟨1, 0, -7⟩, ⟨25, 0, 0⟩]⟩ rfl
  obtain ⟨_, _, _, b2, off2, rfl, hb2l, _, _, d2⟩ := hU.code 0 ⟨1, 0, -7⟩ rfl
  have c5' : w1.cell? ⟨b, off + 5, none⟩ = some (.slice (some ⟨b2, off2, none⟩) 2 cc) := c5
  have d2' : w1.cell? ⟨b2, off2 + 2, none⟩ = some (.int .i64 (-7)) := d2
  have HB := hide hb
  clear hM hU c5 d2 hb HR
  go_wp2
  go_ret
  exact ⟨rfl, (HB.out.alloc HB.out.size _).alloc (by have := HB.out.size; simp; omega) _⟩

end Go.Proofs.YtbdcmkmeljddmaaGreatDoor.Aw

/- The walks of number, ints, boxes, head and instr of the listing's writer. -/
namespace Go.Proofs.YtbdcmkmeljddmaaGreatDoor.Aw
open Go.RowKit As

theorem i64_of {n : Int} (h : I64 n) : i64 n = true := by
  unfold i64
  simp only [Bool.and_eq_true, decide_eq_true_eq]
  exact h
theorem strs_new {w : World} {q : Nat} {l : List By} {fr : Nat × Nat} (h : w.heap[q]? = some (.cells (l.map sv).toArray 9 fr)) : StrsAt w l q :=
  ⟨_, fr, h, fun i x hx => by simp [hx]⟩
theorem strs1 (w : World) (x : By) : StrsAt (w.alloc (.cells #[sv x] 9)) [x] w.heap.size := strs_new (l := [x]) (heap_alloc_new w _)
theorem strs2 (w : World) (x y : By) : StrsAt (w.alloc (.cells #[sv x, sv y] 9)) [x, y] w.heap.size := strs_new (l := [x, y]) (heap_alloc_new w _)
theorem kp_alloc {B : Nat} {w : World} (hB : B ≤ w.heap.size) (o : Obj) : Kp B w (w.alloc o) := (Kp.refl B w).alloc hB o
theorem WR.ge {w : World} {B S U J : Nat} {xs : By} (h : WR w B S U J xs) : B ≤ w.heap.size := by have := h.lt; have := h.base; omega
theorem Wrote.then {B S U J : Nat} {ys zs : By} {w w1 w2 w3 : World} (h : Wrote B S U J ys w w1) (h2 : Kp B w1 w2) (h3 : Wrote B S U J zs w2 w3) : Wrote B S U J zs w w3 := ⟨(h.kp.trans h2).trans h3.kp, h3.wr⟩
theorem Wrote.of {B S U J : Nat} {zs : By} {w w2 w3 : World} (h2 : Kp B w w2) (h3 : Wrote B S U J zs w2 w3) : Wrote B S U J zs w w3 := ⟨h2.trans h3.kp, h3.wr⟩

set_option maxHeartbeats 400000 in
/-- put of one text. -/
theorem put1_any (B S U J : Nat) (x xs : By) (w : World) (h : Hid (WR w B S U J xs)) (hx : Hid (x.length ≤ 10)) (hf : Hid (xs.length ≤ 60060)) :
    Calls Tryz.prog 24 #[.pointer (some ⟨S, 0, none⟩), .slice (some ⟨w.heap.size, 0, none⟩) 1 1] (w.alloc (.cells #[sv x] 9)) fun e w' => e = .returned (.tuple #[]) ∧ Wrote B S U J (xs ++ x) w w' := by
  refine (put_any B S U J w.heap.size [x] xs _ (by simp) (hide (strs1 w x)) (hide (h.out.alloc _)) (hide (by have := hx.out; have := hf.out; simp; omega)) (xs ++ x) (hide (by simp))).mono ?_
  rintro e w' ⟨he, hw⟩
  exact ⟨he, Wrote.of (kp_alloc h.out.ge _) hw⟩
/-- put of two texts. -/
theorem put2_any (B S U J : Nat) (x y xs : By) (w : World) (h : Hid (WR w B S U J xs)) (hx : Hid (x.length + y.length ≤ 30)) (hf : Hid (xs.length ≤ 60060)) :
    Calls Tryz.prog 24 #[.pointer (some ⟨S, 0, none⟩), .slice (some ⟨w.heap.size, 0, none⟩) 2 2] (w.alloc (.cells #[sv x, sv y] 9)) fun e w' => e = .returned (.tuple #[]) ∧ Wrote B S U J (xs ++ (x ++ y)) w w' := by
  refine (put_any B S U J w.heap.size [x, y] xs _ (by simp) (hide (strs2 w x y)) (hide (h.out.alloc _)) (hide (by have := hx.out; have := hf.out; simp; omega)) (xs ++ (x ++ y)) (hide (by simp))).mono ?_
  rintro e w' ⟨he, hw⟩
  exact ⟨he, Wrote.of (kp_alloc h.out.ge _) hw⟩

set_option maxHeartbeats 400000 in
theorem number_any (B S U J : Nat) (n : Int) (hn : Hid (I64 n)) (xs : By) (w : World) (hg : Hid (GV B w)) (h : Hid (WR w B S U J xs)) (hf : Hid (xs.length ≤ 60060)) :
    Calls Tryz.prog 45 #[.pointer (some ⟨S, 0, none⟩), .int .i64 n] w fun e w' => e = .returned (.tuple #[]) ∧ Wrote B S U J (wNum xs n) w w' := by
  go_enter Tryz.func45, Tryz.ntmps45
  go_wp2_with fail
  refine (fmt_any n hn.out B w hg.out).mono ?_
  rintro e w1 ⟨rfl, hb⟩
  have HK : Hid (Kp B w w1) := Kp.new hb h.out.ge
  have HW : Hid (WR w1 B S U J xs) := h.out.new hb
  clear hb
  go_wp2_with fail
  refine (put2_any B S U J [32] (dig n) xs w1 HW (hide (by have := dig_len (i64_of hn.out); simp; omega)) hf).mono ?_
  rintro e w2 ⟨rfl, hw2⟩
  have HR : Hid (Wrote B S U J (wNum xs n) w w2) := Wrote.of HK.out hw2
  clear hw2
  go_wp2
  go_end0
  exact ⟨rfl, HR.out⟩

/-- Blocks that no writing turns. -/
def Stays (B : Nat) (w : World) (b : Nat) : Prop := b < B ∨ ∃ cs t fr, w.heap[b]? = some (Obj.cells cs t fr) ∧ t ≠ 5 ∧ t ≠ 53
theorem Kp.stays {B : Nat} {w w' : World} (h : Kp B w w') {b : Nat} (hs : Stays B w b) : Stays B w' b ∧ w'.heap[b]? = w.heap[b]? := by
  rcases hs with hs | ⟨cs, t, fr, hb, h1, h2⟩
  · exact ⟨.inl hs, h.below.block b hs⟩
  · exact ⟨.inr ⟨cs, t, fr, h.blk b cs t fr hb h1 h2, h1, h2⟩, (h.blk b cs t fr hb h1 h2).trans hb.symm⟩
/-- Numbers lie at a. -/
def IntsA (B : Nat) (w : World) (l : List Int) (a : Option Addr) : Prop :=
  ∀ (i : Nat) (x : Int), l[i]? = some x → I64 x ∧ ∃ b off, a = some ⟨b, off, none⟩ ∧ Stays B w b ∧ w.cell? ⟨b, off + i, none⟩ = some (.int .i64 x)
theorem IntsA.kp {B : Nat} {w w' : World} {l : List Int} {a : Option Addr} (h : IntsA B w l a) (hk : Kp B w w') : IntsA B w' l a := fun i x hx => by
  obtain ⟨h1, b, off, e, hs, hc⟩ := h i x hx
  exact ⟨h1, b, off, e, (hk.stays hs).1, (cell_eq (hk.stays hs).2 _).trans hc⟩
theorem ints_in {B : Nat} {w : World} {l : List Int} {a : Option Addr} (h : IntsIn B w l a) : IntsA B w l a := fun i x hx => by
  obtain ⟨h1, b, off, e, hs, hc⟩ := h i x hx
  exact ⟨h1, b, off, e, .inl hs, hc⟩
theorem ints_new {B q : Nat} {w : World} {l : List Int} {fr : Nat × Nat} (hq : w.heap[q]? = some (.cells (l.map (Value.int .i64)).toArray 3 fr)) (h64 : ∀ x ∈ l, I64 x) : IntsA B w l (some ⟨q, 0, none⟩) := fun i x hx => by
  refine ⟨h64 x (List.mem_of_getElem? hx), q, 0, rfl, .inr ⟨_, _, _, hq, by decide, by decide⟩, ?_⟩
  simp [World.cell?, hq, hx]
theorem GV.kp {B : Nat} {w w' : World} (h : GV B w) (hk : Kp B w w') : GV B w' := h.below hk.below (Nat.le_refl _)

theorem wInts_next : ∀ (l : List Int) (k : Nat) (x : Int) (xs : By), l[k]? = some x → full (wInts xs (l.take k)) = false → wInts xs (l.take (k + 1)) = wNum (wInts xs (l.take k)) x
  | [], k, x, xs, h, _ => by simp at h
  | y :: l, 0, x, xs, h, hf => by
    simp at h
    subst h
    have hf' : full xs = false := hf
    simp [wInts, hf']
  | y :: l, k + 1, x, xs, h, hf => by
    have h' : l[k]? = some x := by simpa using h
    simp only [List.take_succ_cons, wInts] at hf ⊢
    by_cases hx : full xs = true
    · rw [if_pos hx] at hf
      rw [hx] at hf
      cases hf
    · rw [if_neg hx] at hf ⊢
      rw [if_neg hx]
      exact wInts_next l k x (wNum xs y) h' hf
theorem wInts_stop : ∀ (l : List Int) (k : Nat) (xs : By), full (wInts xs (l.take k)) = true → wInts xs l = wInts xs (l.take k)
  | [], k, xs, _ => by simp
  | y :: l, 0, xs, hf => by
    have hf' : full xs = true := hf
    simp [wInts, hf']
  | y :: l, k + 1, xs, hf => by
    simp only [List.take_succ_cons, wInts] at hf ⊢
    by_cases hx : full xs = true
    · rw [if_pos hx, if_pos hx]
    · rw [if_neg hx] at hf ⊢
      rw [if_neg hx]
      exact wInts_stop l k (wNum xs y) hf

set_option maxHeartbeats 1000000 in
theorem ints_any (B S U J : Nat) (l : List Int) (a : Option Addr) (c : Nat) (hl : l.length ≤ 9223372036854775807) (xs : By) (w : World) (hg : Hid (GV B w)) (hin : Hid (IntsA B w l a)) (h : Hid (WR w B S U J xs)) (hf : Hid (xs.length ≤ 60040)) (ys : By) (hy : Hid (ys = wInts xs l)) :
    Calls Tryz.prog 25 #[.pointer (some ⟨S, 0, none⟩), .slice a l.length c] w fun e w' => e = .returned (.tuple #[]) ∧ Wrote B S U J ys w w' := by
  have H64 : Hid (∀ n ∈ l, i64 n = true) := fun n hn => by
    obtain ⟨i, hi, rfl⟩ := List.getElem_of_mem hn
    exact i64_of (hin.out i _ (List.getElem?_eq_getElem hi)).1
  go_enter Tryz.func25, Tryz.ntmps25
  go_wp2
  go_loopw [8] (fun i wr => ∃ k : Nat, i = .int .i64 k ∧ k ≤ l.length ∧ Wrote B S U J (wInts xs (l.take k)) w wr) (fun i _ => l.length - (intOf i).toNat)
  case atStart => exact ⟨0, rfl, Nat.zero_le _, Kp.refl _ _, by simpa [wInts] using h.out⟩
  case round =>
    obtain ⟨k, rfl, hk, hA⟩ := hrel
    have HA := hide hA
    clear hA
    by_cases hlt : k < l.length
    · obtain ⟨x, hx⟩ : ∃ x, l[k]? = some x := ⟨_, List.getElem?_eq_getElem hlt⟩
      obtain ⟨hx64, b, off, rfl, _, cx⟩ := hin.out.kp HA.out.kp k x hx
      have HX := hide hx
      have HX64 := hide hx64
      clear hx hx64
      obtain ⟨zs, hzs⟩ : ∃ zs, zs = wInts xs (l.take k) := ⟨_, rfl⟩
      have HZ := hide hzs
      have HW : Hid (WR wr B S U J zs) := by rw [hzs]; exact HA.out.wr
      have HZL : Hid (zs.length ≤ 60040) := by
        unfold Hid
        rw [hzs]
        exact wInts_len _ _ (fun n hn => H64.out n (List.mem_of_mem_take hn)) hf.out
      have HK := hide HA.out.kp
      clear hzs HA
      go_wp2_with fail
      refine (full_any B S U J zs _ HW (full zs) (hide rfl)).mono ?_
      rintro e w1 ⟨rfl, rfl⟩
      cases hfz : full zs with
      | true =>
        have HR : Hid (Wrote B S U J ys w w1) := by
          have e1 : ys = zs := by rw [hy.out, HZ.out]; exact wInts_stop l k xs (by rw [← HZ.out]; exact hfz)
          rw [e1]
          exact ⟨HK.out, HW.out⟩
        clear hfz
        go_wp2
        exact bodyPost_ret (v := .tuple #[]) (by simp [results, Tryz.results25, go_sem]) rfl ⟨rfl, HR.out⟩
      | false =>
        have HE : Hid (wInts xs (l.take (k + 1)) = wNum zs x) := by
          unfold Hid
          rw [HZ.out]
          exact wInts_next l k x xs HX.out (by rw [← HZ.out]; exact hfz)
        clear hfz
        go_wp2_with fail
        refine (number_any B S U J x HX64 zs w1 (hide (hg.out.kp HK.out)) HW (hide (Nat.le_trans HZL.out (by decide)))).mono ?_
        rintro e w2 ⟨rfl, hw2⟩
        have HR : Hid (Wrote B S U J (wInts xs (l.take (k + 1))) w w2) := by unfold Hid; rw [HE.out]; exact ⟨HK.out.trans hw2.kp, hw2.wr⟩
        clear hw2 cx
        go_wp2
        go_roundw
        case rel => exact ⟨k + 1, by go_num, by omega, HR.out⟩
        case measure => simp [intOf]; omega
    · obtain rfl : k = l.length := by omega
      have HR : Hid (Wrote B S U J ys w wr) := by have := HA.out; rw [List.take_length, ← hy.out] at this; exact this
      go_wp2
      go_end0
      exact ⟨rfl, HR.out⟩

end Go.Proofs.YtbdcmkmeljddmaaGreatDoor.Aw

