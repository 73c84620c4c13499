/- The walks of boxes, head and instr of the listing's writer. -/
import Derived.Test.YtbdcmkmeljddmaaGreatDoorM13
import Derived.Test.YtbdcmkmeljddmaaGreatDoorM4
namespace Go.Proofs.YtbdcmkmeljddmaaGreatDoor.Aw
open Go.RowKit As

theorem ints1 (B : Nat) (w : World) (x : Int) (h : I64 x) : IntsA B (w.alloc (.cells #[.int .i64 x] 3)) [x] (some ⟨w.heap.size, 0, none⟩) := ints_new (l := [x]) (heap_alloc_new w _) (by simpa using h)
theorem ints2 (B : Nat) (w : World) (x y : Int) (h : I64 x ∧ I64 y) : IntsA B (w.alloc (.cells #[.int .i64 x, .int .i64 y] 3)) [x, y] (some ⟨w.heap.size, 0, none⟩) := ints_new (l := [x, y]) (heap_alloc_new w _) (by intro z hz; simp at hz; rcases hz with rfl | rfl; exact h.1; exact h.2)
theorem ints3 (B : Nat) (w : World) (x y z : Int) (h : I64 x ∧ I64 y ∧ I64 z) : IntsA B (w.alloc (.cells #[.int .i64 x, .int .i64 y, .int .i64 z] 3)) [x, y, z] (some ⟨w.heap.size, 0, none⟩) := ints_new (l := [x, y, z]) (heap_alloc_new w _) (by intro z hz; simp at hz; rcases hz with rfl | rfl | rfl; exact h.1; exact h.2.1; exact h.2.2)

theorem wInts_len1 {xs : By} {l : List Int} (h : ∀ n ∈ l, I64 n) (hx : xs.length ≤ 60040) : (wInts xs l).length ≤ 60040 := wInts_len l xs (fun n hn => i64_of (h n hn)) hx
theorem all2 {a b : Int} (h : I64 a ∧ I64 b) : ∀ n ∈ [a, b], I64 n := by intro z hz; simp at hz; rcases hz with rfl | rfl; exact h.1; exact h.2
theorem all3 {a b c : Int} (h : I64 a ∧ I64 b ∧ I64 c) : ∀ n ∈ [a, b, c], I64 n := by intro z hz; simp at hz; rcases hz with rfl | rfl | rfl; exact h.1; exact h.2.1; exact h.2.2

theorem wBoxes_next : ∀ (l : List Vf.Bx) (k : Nat) (x : Vf.Bx) (xs : By), l[k]? = some x → full (wBoxes xs (l.take k)) = false → wBoxes xs (l.take (k + 1)) = wBox (wBoxes xs (l.take k)) x
  | [], k, x, xs, h, _ => by simp at h
  | y :: l, 0, x, xs, h, hf => by
    simp at h
    subst h
    have hf' : full xs = false := hf
    simp [wBoxes, hf']
  | y :: l, k + 1, x, xs, h, hf => by
    have h' : l[k]? = some x := by simpa using h
    simp only [List.take_succ_cons, wBoxes] at hf ⊢
    by_cases hx : full xs = true
    · rw [if_pos hx] at hf
      rw [hx] at hf
      cases hf
    · rw [if_neg hx] at hf ⊢
      rw [if_neg hx]
      exact wBoxes_next l k x (wBox xs y) h' hf
theorem wBoxes_stop : ∀ (l : List Vf.Bx) (k : Nat) (xs : By), full (wBoxes xs (l.take k)) = true → wBoxes xs l = wBoxes xs (l.take k)
  | [], k, xs, _ => by simp
  | y :: l, 0, xs, hf => by
    have hf' : full xs = true := hf
    simp [wBoxes, hf']
  | y :: l, k + 1, xs, hf => by
    simp only [List.take_succ_cons, wBoxes] at hf ⊢
    by_cases hx : full xs = true
    · rw [if_pos hx, if_pos hx]
    · rw [if_neg hx] at hf ⊢
      rw [if_neg hx]
      exact wBoxes_stop l k (wBox xs y) hf
theorem full_no {xs : By} (h : full xs = false) : xs.length ≤ 60000 := by simp [full] at h; omega
theorem bx_cells {w : World} {N : Nat} {x y : Int} (h : w.heap[N]? = some (.cells #[.int .i64 x, .int .i64 y] 67 (0, 0))) : w.cell? ⟨N, 0, none⟩ = some (.int .i64 x) ∧ w.cell? ⟨N, 1, none⟩ = some (.int .i64 y) := by
  simp [World.cell?, h]

set_option maxHeartbeats 1000000 in
theorem boxes_any (B S U J : Nat) (l : List Vf.Bx) (a : Option Addr) (c : Nat) (hl : l.length ≤ 9223372036854775807) (xs : By) (w : World) (hg : Hid (GV B w)) (hin : Hid (BoxesIn B w l a)) (h : Hid (WR w B S U J xs)) (ys : By) (hy : Hid (ys = wBoxes xs l)) :
    Calls Tryz.prog 9 #[.pointer (some ⟨S, 0, none⟩), .slice a l.length c] w fun e w' => e = .returned (.tuple #[]) ∧ Wrote B S U J ys w w' := by
  go_enter Tryz.func9, Tryz.ntmps9
  go_wp2
  go_loopw [8] (fun i wr => ∃ k : Nat, i = .int .i64 k ∧ k ≤ l.length ∧ Wrote B S U J (wBoxes xs (l.take k)) w wr) (fun i _ => l.length - (intOf i).toNat)
  case atStart => exact ⟨0, rfl, Nat.zero_le _, Kp.refl _ _, by simpa [wBoxes] using h.out⟩
  case round =>
    obtain ⟨k, rfl, hk, hA⟩ := hrel
    have HA := hide hA
    clear hA
    by_cases hlt : k < l.length
    · obtain ⟨x, hx⟩ : ∃ x, l[k]? = some x := ⟨_, List.getElem?_eq_getElem hlt⟩
      obtain ⟨h1, h2, b, off, rfl, _, cx, cy⟩ := hin.out.low HA.out.kp.below.block k x hx
      have HX := hide hx
      have H2 : Hid (I64 x.ty ∧ I64 x.cap) := ⟨h1, h2⟩
      clear hx h1 h2
      obtain ⟨zs, hzs⟩ : ∃ zs, zs = wBoxes xs (l.take k) := ⟨_, rfl⟩
      have HZ := hide hzs
      have HW : Hid (WR wr B S U J zs) := by rw [hzs]; exact HA.out.wr
      have HK := hide HA.out.kp
      clear hzs HA
      go_wp2_with fail
      refine (full_any B S U J zs _ (hide (HW.out.alloc _)) (full zs) (hide rfl)).mono ?_
      rintro e w1 ⟨rfl, rfl⟩
      clear cx cy
      have HA1 : Hid ((wr.alloc (.cells #[.int .i64 x.ty, .int .i64 x.cap] 67)).heap[wr.heap.size]? = some (.cells #[.int .i64 x.ty, .int .i64 x.cap] 67 (0, 0))) := heap_alloc_new _ _
      have HK1 : Hid (Kp B w (wr.alloc (.cells #[.int .i64 x.ty, .int .i64 x.cap] 67))) := HK.out.alloc HW.out.ge _
      have HW1 : Hid (WR (wr.alloc (.cells #[.int .i64 x.ty, .int .i64 x.cap] 67)) B S U J zs) := HW.out.alloc _
      generalize wr.alloc (.cells #[.int .i64 x.ty, .int .i64 x.cap] 67) = V at HA1 HK1 HW1 ⊢
      generalize wr.heap.size = N at HA1 ⊢
      clear HW HK
      cases hfz : full zs with
      | true =>
        have HR : Hid (Wrote B S U J ys w V) := by
          have e1 : ys = zs := by rw [hy.out, HZ.out]; exact wBoxes_stop l k xs (by rw [← HZ.out]; exact hfz)
          rw [e1]
          exact ⟨HK1.out, HW1.out⟩
        clear hfz
        go_wp2
        exact bodyPost_ret (v := .tuple #[]) (by simp [results, Tryz.results9, go_sem]) rfl ⟨rfl, HR.out⟩
      | false =>
        have HE : Hid (wBoxes xs (l.take (k + 1)) = wBox zs x) := by
          unfold Hid
          rw [HZ.out]
          exact wBoxes_next l k x xs HX.out (by rw [← HZ.out]; exact hfz)
        have HZL := hide (full_no hfz)
        clear hfz
        go_wp2_with fail
        refine (put1_any B S U J boxW zs V HW1 (hide (by decide)) (hide (Nat.le_trans HZL.out (by decide)))).mono ?_
        rintro e w2 ⟨rfl, hw2⟩
        have HA2 := hide (hw2.kp.blk _ _ _ _ HA1.out (by decide) (by decide))
        have HK2 := hide (HK1.out.trans hw2.kp)
        have HW2 := hide hw2.wr
        obtain ⟨cx, cy⟩ := bx_cells HA2.out
        clear hw2 HA1 HK1 HW1
        go_wp2_with fail
        refine (ints_any B S U J [x.ty, x.cap] (some ⟨w2.heap.size, 0, none⟩) 2 (by simp) (zs ++ boxW) (w2.alloc (.cells #[.int .i64 x.ty, .int .i64 x.cap] 3)) (hide (hg.out.kp (HK2.out.alloc HW2.out.ge _))) (hide (ints2 B w2 _ _ H2.out)) (hide (HW2.out.alloc _)) (hide (by have := HZL.out; simp [boxW]; omega)) (wInts (zs ++ boxW) [x.ty, x.cap]) (hide rfl)).mono ?_
        rintro e w3 ⟨rfl, hw3⟩
        have HK3 := hide ((HK2.out.alloc HW2.out.ge _).trans hw3.kp)
        have HW3 := hide hw3.wr
        clear hw3 HA2 HK2 HW2 cx cy
        have HL3 : Hid ((wInts (zs ++ boxW) [x.ty, x.cap]).length ≤ 60060) := by
          have := wInts_len1 (xs := zs ++ boxW) (all2 H2.out) (by have := HZL.out; simp [boxW]; omega)
          unfold Hid
          omega
        generalize hts : wInts (zs ++ boxW) [x.ty, x.cap] = ts at HW3 HL3
        go_wp2_with fail
        refine (put1_any B S U J [10] ts w3 HW3 (hide (by decide)) HL3).mono ?_
        rintro e w4 ⟨rfl, hw4⟩
        have HR : Hid (Wrote B S U J (wBoxes xs (l.take (k + 1))) w w4) := by
          unfold Hid
          rw [HE.out]
          unfold wBox
          rw [hts]
          exact ⟨HK3.out.trans hw4.kp, hw4.wr⟩
        clear hw4 HW3 HK3 HL3 hts
        go_wp2
        go_roundw
        case rel => exact ⟨k + 1, by go_num, by omega, HR.out⟩
        case measure => simp [intOf]; omega
    · obtain rfl : k = l.length := by omega
      have HR : Hid (Wrote B S U J ys w wr) := by have := HA.out; rw [List.take_length, ← hy.out] at this; exact this
      go_wp2
      go_end0
      exact ⟨rfl, HR.out⟩

end Go.Proofs.YtbdcmkmeljddmaaGreatDoor.Aw

/- A unit, a module in a block of their own. -/
namespace Go.Proofs.YtbdcmkmeljddmaaGreatDoor.Aw
open Go.RowKit

abbrev unO (u : Vf.Un) (al ac : Option Addr) (cl cc : Nat) : Obj := .cells #[.int .i64 u.kind, .int .i64 u.params, .slice al u.locals.length cl, .int .i64 u.result, .int .i64 u.takes, .slice ac u.code.length cc] 41 (0, 0)
theorem un_cells {w : World} {N : Nat} {u : Vf.Un} {al ac : Option Addr} {cl cc : Nat} (h : w.heap[N]? = some (unO u al ac cl cc)) :
    w.cell? ⟨N, 0, none⟩ = some (.int .i64 u.kind) ∧ w.cell? ⟨N, 1, none⟩ = some (.int .i64 u.params) ∧ w.cell? ⟨N, 2, none⟩ = some (.slice al u.locals.length cl) ∧ w.cell? ⟨N, 3, none⟩ = some (.int .i64 u.result) ∧ w.cell? ⟨N, 4, none⟩ = some (.int .i64 u.takes) ∧ w.cell? ⟨N, 5, none⟩ = some (.slice ac u.code.length cc) := by
  simp [World.cell?, h]
theorem md_cells {w : World} {k : Nat} {x y : Value} (h : w.heap[k]? = some (.cells #[x, y] 25 (0, 0))) : w.cell? ⟨k, 0, none⟩ = some x ∧ w.cell? ⟨k, 1, none⟩ = some y := by
  simp [World.cell?, h]
abbrev mdO (m : Vf.Md) (ab au : Option Addr) (cb cu : Nat) : Obj := .cells #[.slice ab m.boxes.length cb, .slice au m.units.length cu] 25 (0, 0)

end Go.Proofs.YtbdcmkmeljddmaaGreatDoor.Aw

