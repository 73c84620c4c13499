/- The walks of count, ints, box, instr. -/
import Derived.Test.YtnfkfgpnojdfoaaIm13
namespace Go.Proofs.Ytnfkfgpnojdfoaa
open Go.RowKit

namespace Im
/-- So many of n have been read. -/
structure RepAt {α : Type} (f : List Nat → Option (α × List Nat)) (n : Nat) (l : List Nat) (k : Nat) (xs : List α) (lk : List Nat) : Prop where
  len : xs.length = k
  le : k ≤ n
  used : k + lk.length ≤ l.length
  is : rep f n l = (rep f (n - k) lk).bind fun q => some (xs ++ q.1, q.2)
theorem RepAt.start {α : Type} (f : List Nat → Option (α × List Nat)) (n : Nat) (l : List Nat) : RepAt f n l 0 [] l := ⟨rfl, Nat.zero_le _, by omega, by
  rw [Nat.sub_zero]
  cases rep f n l with
  | none => rfl
  | some q => simp⟩
theorem RepAt.next {α : Type} {f : List Nat → Option (α × List Nat)} {n k : Nat} {l lk l' : List Nat} {xs : List α} {x : α} (h : RepAt f n l k xs lk) (hk : k < n) (hf : f lk = some (x, l')) (hl : l'.length < lk.length) : RepAt f n l (k + 1) (xs ++ [x]) l' := by
  refine ⟨by simp [h.len], hk, by have := h.used; omega, ?_⟩
  rw [h.is, show n - k = (n - (k + 1)) + 1 by omega]
  simp only [rep]
  rw [hf]
  simp only [Option.bind_some]
  cases rep f (n - (k + 1)) l' with
  | none => rfl
  | some q => simp
theorem RepAt.stop {α : Type} {f : List Nat → Option (α × List Nat)} {n k : Nat} {l lk : List Nat} {xs : List α} (h : RepAt f n l k xs lk) (hk : k < n) (hf : f lk = none) : rep f n l = none := by
  rw [h.is, show n - k = (n - (k + 1)) + 1 by omega]
  simp only [rep]
  rw [hf]
  rfl
theorem RepAt.done {α : Type} {f : List Nat → Option (α × List Nat)} {n : Nat} {l lk : List Nat} {xs : List α} (h : RepAt f n l n xs lk) : rep f n l = some (xs, lk) := by
  rw [h.is, Nat.sub_self]
  simp [rep]

theorem rnum_lt : ∀ (l : List Nat) (sh b : Nat) (n : Int) (r : List Nat), rnum sh b l = some (n, r) → r.length < l.length
  | [], _, _, _, _, h => by simp [rnum] at h
  | c :: l, sh, b, n, r, h => by
    unfold rnum at h
    split at h
    · simp at h
    split at h
    · have := rnum_lt l _ _ n r h
      simp; omega
    split at h
    · simp at h
    simp at h
    rw [h.2]; simp
theorem rn_lt {l r : List Nat} {n : Int} (h : rn l = some (n, r)) : r.length < l.length := rnum_lt l _ _ n r h

theorem two_rep (l : List Nat) : rtwo l = (rep rn 2 l).bind fun q => match q.1 with | [x, y] => some ((x, y), q.2) | _ => none := by
  unfold rtwo
  simp only [rep]
  cases rn l with
  | none => rfl
  | some p =>
    simp only [Option.bind_some]
    cases rn p.2 with
    | none => rfl
    | some q => rfl
end Im

def setl (cs : List Value) (o : Nat) : List Int → List Value
  | [] => cs
  | x :: xs => setl (cs.set o (.int .i64 x)) (o + 1) xs
theorem setl_snoc : ∀ (xs : List Int) (cs : List Value) (o : Nat) (x : Int), setl cs o (xs ++ [x]) = (setl cs o xs).set (o + xs.length) (.int .i64 x)
  | [], _, _, _ => rfl
  | y :: xs, cs, o, x => by
    show setl (cs.set o _) (o + 1) (xs ++ [x]) = _
    rw [setl_snoc xs]
    rw [show o + (y :: xs).length = o + 1 + xs.length by simp; omega]
    rfl
theorem setl_len : ∀ (xs : List Int) (cs : List Value) (o : Nat), (setl cs o xs).length = cs.length
  | [], _, _ => rfl
  | _ :: xs, cs, o => by show (setl (cs.set o _) (o + 1) xs).length = _; rw [setl_len xs]; simp

structure Kr2 (R D : Nat) (w w' : World) : Prop where
  os : w'.os = w.os
  tape : w'.tape = w.tape
  output : w'.output = w.output
  size : w.heap.size ≤ w'.heap.size
  blk : ∀ k, k < w.heap.size → k ≠ R → k ≠ D → w'.heap[k]? = w.heap[k]?
theorem Kr2.refl (R D : Nat) (w : World) : Kr2 R D w w := ⟨rfl, rfl, rfl, Nat.le_refl _, fun _ _ _ _ => rfl⟩
theorem Kr2.trans {R D : Nat} {a b c : World} (h : Kr2 R D a b) (k : Kr2 R D b c) : Kr2 R D a c :=
  ⟨k.os.trans h.os, k.tape.trans h.tape, k.output.trans h.output, Nat.le_trans h.size k.size, fun j hj h1 h2 => (k.blk j (Nat.lt_of_lt_of_le hj h.size) h1 h2).trans (h.blk j hj h1 h2)⟩
theorem Kr.two {R D : Nat} {w w' : World} (h : Kr R w w') : Kr2 R D w w' := ⟨h.os, h.tape, h.output, h.size, fun k hk h1 _ => h.blk k hk h1⟩
theorem Kr2.set {R D : Nat} {w w' : World} (h : Kr2 R D w w') (o : Nat) (u : Value) : Kr2 R D w (w'.setCell ⟨D, o, none⟩ u) :=
  ⟨h.os, h.tape, h.output, by simpa [World.setCell] using h.size, fun k hk h1 h2 => (Below.heap_setCell _ ⟨D, o, none⟩ _ _ h2).trans (h.blk k hk h1 h2)⟩
/-- Where D was not there. -/
theorem Kr2.one {R D : Nat} {w w1 w' : World} (h : Kr2 R D w1 w') (hk : Kr R w w1) (hD : w.heap.size ≤ D) : Kr R w w' :=
  ⟨h.os.trans hk.os, h.tape.trans hk.tape, h.output.trans hk.output, Nat.le_trans hk.size h.size, fun k hk1 h1 => (h.blk k (Nat.lt_of_lt_of_le hk1 hk.size) h1 (by omega)).trans (hk.blk k hk1 h1)⟩

theorem set_rowR {w : World} {g : Nat} {cs : List Value} {t : TypeId} (h : w.heap[g]? = some (.cells cs.toArray t (0, 0))) (j : Nat) (v : Value) : (w.setCell ⟨g, j, none⟩ v).heap[g]? = some (.cells (cs.set j v).toArray t (0, 0)) := by
  simp only [World.setCell, Array.getElem?_modify, if_true, h, Option.map_some, List.setIfInBounds_toArray]
  rfl

set_option maxHeartbeats 400000 in
theorem count_r (R b : Nat) (l : List Nat) (w : World) (h : Hid (RD w R b l)) (r : Option (Int × List Nat)) (hr : Hid (r = Im.rcount l)) :
    Calls Try.prog 29 #[.pointer (some ⟨R, 0, none⟩)] w fun e w' => Rf R b Rint w r e w' := by
  have hc : Im.rcount l = (Im.rn l).bind fun p => if p.1 < 0 then none else some p := rfl
  cases hn : Im.rn l with
  | none =>
    have HR : Hid (r = none) := by unfold Hid; rw [hr.out, hc, hn]; rfl
    have HN : Hid (none = Im.rn l) := hn.symm
    clear hr hc hn
    go_enter Try.func29, Try.ntmps29
    go_wp2_with fail
    refine (number_r R b l _ h none HN).mono ?_
    rintro e w2 ⟨hk, rfl⟩
    have HK := hide hk
    clear hk
    go_wp2
    exact ⟨rfl, HK.out, by rw [HR.out]⟩
  | some p =>
    obtain ⟨n, l1⟩ := p
    have HN : Hid (some (n, l1) = Im.rn l) := hn.symm
    rw [hn] at hc
    simp only [Option.bind_some] at hc
    by_cases h0 : n < 0
    · have HR : Hid (r = none) := by unfold Hid; rw [hr.out, hc, if_pos h0]
      clear hr hc hn
      go_enter Try.func29, Try.ntmps29
      go_wp2_with fail
      refine (number_r R b l _ h (some (n, l1)) HN).mono ?_
      rintro e w2 ⟨hk, rfl, hrd⟩
      have HK := hide hk
      clear hk hrd
      go_wp2_with fail
      refine (fail_any _).mono ?_
      rintro e w3 ⟨rfl, rfl⟩
      go_wp2
      exact ⟨rfl, HK.out, by rw [HR.out]⟩
    · have HR : Hid (r = some (n, l1)) := by unfold Hid; rw [hr.out, hc, if_neg h0]
      clear hr hc hn
      go_enter Try.func29, Try.ntmps29
      go_wp2_with fail
      refine (number_r R b l _ h (some (n, l1)) HN).mono ?_
      rintro e w2 ⟨hk, rfl, hrd⟩
      have HK := hide hk
      have HRD := hide hrd
      clear hk hrd
      go_wp2
      go_ret
      exact ⟨HK.out, by rw [HR.out]; exact ⟨rfl, HRD.out⟩⟩

/-- What holds at the head of ints' loop. -/
structure TwAt (R b D : Nat) (cs : List Value) (t : TypeId) (o : Nat) (l : List Nat) (w : World) (k : Nat) (xs : List Int) (lk : List Nat) (W : World) : Prop where
  rep : Im.RepAt Im.rn 2 l k xs lk
  kr : Kr2 R D w W
  rd : RD W R b lk
  own : W.heap[D]? = some (.cells (setl cs o xs).toArray t (0, 0))

/-- What comes of the reading of two numbers into a block. -/
def Rf2 (R b D : Nat) (cs : List Value) (t : TypeId) (o : Nat) (w : World) (r : Option ((Int × Int) × List Nat)) (e : Ending) (w' : World) : Prop :=
  Kr2 R D w w' ∧ match r with
    | none => e = .panicked [fltE 2 0]
    | some p => e = .returned (.tuple #[]) ∧ w'.heap[D]? = some (.cells (setl cs o [p.1.1, p.1.2]).toArray t (0, 0)) ∧ RD w' R b p.2

theorem two_of {l lk : List Nat} {xs : List Int} (h : Im.RepAt Im.rn 2 l 2 xs lk) : ∃ x y, xs = [x, y] ∧ Im.rtwo l = some ((x, y), lk) := by
  have h1 := h.done
  have h2 := h.len
  match xs, h2 with
  | [x, y], _ => exact ⟨x, y, rfl, by rw [Im.two_rep, h1]; rfl⟩

set_option maxRecDepth 100000 in
set_option maxHeartbeats 1000000 in
theorem ints_r (R b D P : Nat) (cs : List Value) (t : TypeId) (o : Nat) (l : List Nat) (w : World) (h : Hid (RD w R b l)) (hD : Hid (w.heap[D]? = some (.cells cs.toArray t (0, 0)))) (ho : o + 1 < cs.length) (hDR : D ≠ R) (hDb : D ≠ b) (hP : Hid (w.heap[P]? = some (.cells #[.pointer (some ⟨D, o, none⟩), .pointer (some ⟨D, o + 1, none⟩)] 74 (0, 0)))) (hPR : P ≠ R) (hPD : P ≠ D) (r : Option ((Int × Int) × List Nat)) (hr : Hid (r = Im.rtwo l)) :
    Calls Try.prog 35 #[.pointer (some ⟨R, 0, none⟩), .slice (some ⟨P, 0, none⟩) 2 2] w fun e w' => Rf2 R b D cs t o w r e w' := by
  have hltP := lt_of_block hP.out
  go_enter Try.func35, Try.ntmps35
  go_wp2
  go_loopw [8] (fun i wr => ∃ (k : Nat) (xs : List Int) (lk : List Nat), i = .int .i64 k ∧ TwAt R b D cs t o l w k xs lk wr) (fun i _ => 2 - (intOf i).toNat)
  case atStart => exact ⟨0, [], l, rfl, Im.RepAt.start _ _ _, Kr2.refl _ _ _, h.out, hD.out⟩
  case round =>
    obtain ⟨k, xs, lk, rfl, hA⟩ := hrel
    have HA := hide hA
    have hk := hA.rep.le
    have HRD := hide hA.rd
    have hPk : wr.heap[P]? = some (.cells #[.pointer (some ⟨D, o, none⟩), .pointer (some ⟨D, o + 1, none⟩)] 74 (0, 0)) := (hA.kr.blk P hltP hPR hPD).trans hP.out
    have cp : k < 2 → wr.cell? ⟨P, k, none⟩ = some (.pointer (some ⟨D, o + k, none⟩)) := fun hk => by
      match k, hk with
      | 0, _ => simp [World.cell?, hPk]
      | 1, _ => simp [World.cell?, hPk]
    clear hA hPk
    by_cases hlt : k < 2
    · have c0 := cp hlt
      clear cp
      have n0 : (0 : Int) ≤ (k : Int) := by omega
      have n1 : (k : Int) < 2 := by omega
      cases hn : Im.rn lk with
      | none =>
        have HR : Hid (r = none) := by unfold Hid; rw [hr.out, Im.two_rep, HA.out.rep.stop hlt hn]; rfl
        have HN : Hid (none = Im.rn lk) := hn.symm
        clear hn
        go_wp2_with fail
        refine (number_r R b lk _ HRD none HN).mono ?_
        rintro e w2 ⟨hk2, rfl⟩
        have HK : Hid (Kr2 R D w w2) := HA.out.kr.trans hk2.two
        clear hk2
        go_wp2
        exact ⟨rfl, HK.out, by rw [HR.out]⟩
      | some p =>
        obtain ⟨n, l1⟩ := p
        have HN : Hid (some (n, l1) = Im.rn lk) := hn.symm
        have HNX := hide (HA.out.rep.next hlt hn (Im.rn_lt hn))
        have HLEN := hide HA.out.rep.len
        clear hn
        go_wp2_with fail
        refine (number_r R b lk _ HRD (some (n, l1)) HN).mono ?_
        rintro e w2 ⟨hk2, rfl, hrd2⟩
        have hD2 : w2.heap[D]? = some (.cells (setl cs o xs).toArray t (0, 0)) := (hk2.blk D (lt_of_block HA.out.own) hDR).trans HA.out.own
        have cD : ∃ u, w2.cell? ⟨D, o + k, none⟩ = some u := by
          refine ⟨(setl cs o xs)[o + k]'(by rw [setl_len]; omega), ?_⟩
          simp [World.cell?, hD2]
        obtain ⟨u, cu⟩ := cD
        have fu : w2.frozen? ⟨D, o + k, none⟩ = false := by simp [World.frozen?, hD2]
        have hD3 := set_rowR hD2 (o + k) (.int .i64 n)
        have HD3 : Hid ((w2.setCell ⟨D, o + k, none⟩ (.int .i64 n)).heap[D]? = some (.cells (setl cs o (xs ++ [n])).toArray t (0, 0))) := by
          unfold Hid
          rw [hD3, setl_snoc, HLEN.out]
        have HK : Hid (Kr2 R D w (w2.setCell ⟨D, o + k, none⟩ (.int .i64 n))) := (HA.out.kr.trans hk2.two).set _ _
        have HRD3 : Hid (RD (w2.setCell ⟨D, o + k, none⟩ (.int .i64 n)) R b l1) := hrd2.far (Below.heap_setCell _ ⟨D, o + k, none⟩ _ _ (fun e => hDR e.symm)) (Below.heap_setCell _ ⟨D, o + k, none⟩ _ _ (fun e => hDb e.symm)) (by simp [World.setCell])
        clear hk2 hrd2 hD2 hD3
        go_wp2
        go_roundw
        case rel => exact ⟨k + 1, xs ++ [n], l1, by go_num, HNX.out, HK.out, HRD3.out, HD3.out⟩
        case measure => simp [intOf]; omega
    · obtain rfl : k = 2 := by omega
      obtain ⟨x, y, hxs, h2⟩ := two_of HA.out.rep
      have HR : Hid (r = some ((x, y), lk)) := by unfold Hid; rw [hr.out, h2]
      have HOW : Hid (wr.heap[D]? = some (.cells (setl cs o [x, y]).toArray t (0, 0))) := by have := HA.out.own; rw [hxs] at this; exact this
      clear hxs h2 cp
      go_wp2
      go_end0
      exact ⟨HA.out.kr, by rw [HR.out]; exact ⟨rfl, HOW.out, HA.out.rd⟩⟩

end Go.Proofs.Ytnfkfgpnojdfoaa
