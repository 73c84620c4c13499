/- The listing, plainly: what a writer that stops when it is full has written. -/
import Derived.Test.YtbdcmkmeljddmaaGreatDoorM3
import Derived.Test.YtbdcmkmeljddmaaGreatDoorM5
import Derived.Lib.AppendStr
import Derived.Lib.UnsafeStr
namespace Go.Proofs.YtbdcmkmeljddmaaGreatDoor.As
open Vf

def full (xs : By) : Bool := decide (60000 < xs.length)
def wNum (xs : By) (n : Int) : By := xs ++ 32 :: dig n
def wInts : By → List Int → By
  | xs, [] => xs
  | xs, n :: l => if full xs = true then xs else wInts (wNum xs n) l
def wBox (xs : By) (b : Bx) : By := wInts (xs ++ boxW) [b.ty, b.cap] ++ [10]
def wBoxes : By → List Bx → By
  | xs, [] => xs
  | xs, b :: l => if full xs = true then xs else wBoxes (wBox xs b) l
def wHead (xs w : By) (u : Un) : By := wInts (wInts (xs ++ w) [u.params, u.result, u.takes]) u.locals ++ [10]
def wIns (xs w : By) (k : Int) (i : Ins) : By :=
  if full xs = true then xs else (if k = 1 then wNum (xs ++ 9 :: w) i.n else if k = 2 then wInts (xs ++ 9 :: w) [i.a] else xs ++ 9 :: w) ++ [10]

theorem digN_len : ∀ (k n : Nat), n < 10 ^ (k + 1) → (digN n).length ≤ k + 1
  | 0, n, h => by rw [digN, if_pos (by omega)]; simp
  | k + 1, n, h => by
    rw [digN]
    split
    · simp
    · have := digN_len k (n / 10) (by rw [Nat.pow_succ] at h; omega)
      simp; omega
theorem dig_len {n : Int} (h : i64 n = true) : (dig n).length ≤ 20 := by
  unfold i64 at h
  simp only [Bool.and_eq_true, decide_eq_true_eq] at h
  have := digN_len 18 n.natAbs (by omega)
  unfold dig
  split
  · simp; omega
  · omega
theorem wNum_len {xs : By} {n : Int} (h : i64 n = true) : (wNum xs n).length ≤ xs.length + 21 := by
  have := dig_len h
  simp [wNum]; omega
theorem wInts_len : ∀ (l : List Int) (xs : By), (∀ n ∈ l, i64 n = true) → xs.length ≤ 60040 → (wInts xs l).length ≤ 60040
  | [], _, _, h => h
  | n :: l, xs, hl, h => by
    unfold wInts
    split
    · exact h
    · rename_i hf
      have h1 := wNum_len (xs := xs) (hl n List.mem_cons_self)
      refine wInts_len l _ (fun x hx => hl x (List.mem_cons_of_mem _ hx)) ?_
      simp [full] at hf
      omega
/-- What is written is what is to be written, or both are too long. -/
def Lk (T xs : By) : Prop := xs = T ∨ (60000 < xs.length ∧ 60000 < T.length)
theorem Lk.more {T xs : By} (h : Lk T xs) (y : By) : Lk (T ++ y) (xs ++ y) := by
  rcases h with rfl | ⟨h1, h2⟩
  · exact .inl rfl
  · exact .inr ⟨by simp; omega, by simp; omega⟩
theorem Lk.rest {T xs : By} (h : Lk T xs) (hf : full xs = true) (y : By) : Lk (T ++ y) xs := by
  simp [full] at hf
  rcases h with rfl | ⟨h1, h2⟩
  · exact .inr ⟨hf, by simp; omega⟩
  · exact .inr ⟨hf, by simp; omega⟩
theorem Lk.isFull {T xs : By} (h : Lk T xs) : full xs = decide (60000 < T.length) := by
  rcases h with rfl | ⟨h1, h2⟩
  · rfl
  · simp [full, h1, h2]
theorem Lk.eq {T xs : By} (h : Lk T xs) (hf : full xs = false) : xs = T := by
  simp [full] at hf
  rcases h with h | ⟨h1, h2⟩
  · exact h
  · omega
theorem wInts_lk : ∀ (l : List Int) {T xs : By}, Lk T xs → Lk (T ++ join (l.map dig)) (wInts xs l)
  | [], T, xs, h => by simpa [join, wInts] using h
  | n :: l, T, xs, h => by
    unfold wInts
    split
    · rename_i hf
      exact h.rest hf _
    · have := wInts_lk l (h.more (32 :: dig n))
      have e : T ++ join ((n :: l).map dig) = T ++ (32 :: dig n) ++ join (l.map dig) := by simp [join]
      rw [e]
      exact this
theorem wBox_lk {T xs : By} (h : Lk T xs) (b : Bx) : Lk (T ++ (bxL b ++ [10])) (wBox xs b) := by
  have := (wInts_lk [b.ty, b.cap] (h.more boxW)).more [10]
  have e : T ++ (bxL b ++ [10]) = T ++ boxW ++ join ([b.ty, b.cap].map dig) ++ [10] := by simp [bxL]
  rw [e]
  exact this
theorem wBoxes_lk : ∀ (l : List Bx) {T xs : By}, Lk T xs → Lk (T ++ text (l.map bxL)) (wBoxes xs l)
  | [], T, xs, h => by simpa [text, wBoxes] using h
  | b :: l, T, xs, h => by
    unfold wBoxes
    split
    · rename_i hf
      exact h.rest hf _
    · have := wBoxes_lk l (wBox_lk h b)
      have e : T ++ text ((b :: l).map bxL) = T ++ (bxL b ++ [10]) ++ text (l.map bxL) := by simp [text]
      rw [e]
      exact this
theorem wHead_lk {T xs w : By} (h : Lk T xs) {u : Un} (hw : headW u.kind = some w) : Lk (T ++ (unL u ++ [10])) (wHead xs w u) := by
  have := (wInts_lk u.locals (wInts_lk [u.params, u.result, u.takes] (h.more w))).more [10]
  have e : T ++ (unL u ++ [10]) = T ++ w ++ join ([u.params, u.result, u.takes].map dig) ++ join (u.locals.map dig) ++ [10] := by simp [unL, hw, join]
  rw [e]
  exact this
theorem wIns_lk {T xs w : By} {k : Int} {h' : Nat} (h : Lk T xs) {i : Ins} (hw : wordOf i.op = some (w, h')) (hk : (h' = 2 ∧ k = 1) ∨ (h' = 1 ∧ k = 2) ∨ (h' = 0 ∧ k = 0)) : Lk (T ++ (inL i ++ [10])) (wIns xs w k i) := by
  unfold wIns
  split
  · rename_i hf
    exact h.rest hf _
  · have e : inL i = 9 :: (w ++ join ((args h' i).map dig)) := by unfold inL; rw [hw]
    rw [e]
    rcases hk with ⟨rfl, rfl⟩ | ⟨rfl, rfl⟩ | ⟨rfl, rfl⟩
    · have := ((h.more (9 :: w)).more (32 :: dig i.n)).more [10]
      rw [if_pos rfl]
      have e2 : T ++ (9 :: (w ++ join ((args 2 i).map dig)) ++ [10]) = T ++ (9 :: w) ++ (32 :: dig i.n) ++ [10] := by simp [args, join]
      rw [e2]
      exact this
    · have := (wInts_lk [i.a] (h.more (9 :: w))).more [10]
      rw [if_neg (by decide), if_pos rfl]
      have e2 : T ++ (9 :: (w ++ join ((args 1 i).map dig)) ++ [10]) = T ++ (9 :: w) ++ join ([i.a].map dig) ++ [10] := by simp [args]
      rw [e2]
      exact this
    · have := (h.more (9 :: w)).more [10]
      rw [if_neg (by decide), if_neg (by decide)]
      have e2 : T ++ (9 :: (w ++ join ((args 0 i).map dig)) ++ [10]) = T ++ (9 :: w) ++ [10] := by simp [args, join]
      rw [e2]
      exact this
end Go.Proofs.YtbdcmkmeljddmaaGreatDoor.As

/- A writer of listings in memory; the walks of newWriter, full, put, number and ints. -/
namespace Go.Proofs.YtbdcmkmeljddmaaGreatDoor.Aw
open Go.RowKit As

theorem Tryz.info5 : (Tryz.prog.info? 5).map (fun i => (i.zero, i.size, i.bytes)) = some (some (.int .u8 0), 1, 1) := by kernel_rfl

/-- Nothing below B has turned, nor anything but bytes and writers. -/
structure Kp (B : Nat) (w w' : World) : Prop where
  below : Below B w w'
  size : w.heap.size ≤ w'.heap.size
  blk : ∀ (k : Nat) (cs : Array Value) (t : TypeId) (fr : Nat × Nat), w.heap[k]? = some (.cells cs t fr) → t ≠ 5 → t ≠ 53 → w'.heap[k]? = some (.cells cs t fr)
theorem Kp.refl (B : Nat) (w : World) : Kp B w w := ⟨Below.refl _ _, Nat.le_refl _, fun _ _ _ _ h _ _ => h⟩
theorem Kp.trans {B : Nat} {a b c : World} (h : Kp B a b) (k : Kp B b c) : Kp B a c :=
  ⟨h.below.trans k.below, Nat.le_trans h.size k.size, fun j cs t fr hj h1 h2 => k.blk j cs t fr (h.blk j cs t fr hj h1 h2) h1 h2⟩
/-- What makes nothing but new blocks. -/
theorem Kp.new {B : Nat} {w w' : World} (h : Below w.heap.size w w') (hB : B ≤ w.heap.size) : Kp B w w' :=
  ⟨h.mono hB, h.size, fun _ _ _ _ hk _ _ => (h.block _ (lt_of_block hk)).trans hk⟩
theorem Kp.alloc {B : Nat} {w w' : World} (h : Kp B w w') (hB : B ≤ w'.heap.size) (o : Obj) : Kp B w (w'.alloc o) :=
  h.trans (Kp.new ((Below.refl _ _).alloc (Nat.le_refl _) _) hB)

abbrev wrO (v : Value) (U J : Nat) : Obj := .cells #[v, .int .i64 2, .slice (some ⟨U, 0, none⟩) 3 3, .int .i64 1, .slice (some ⟨J, 0, none⟩) 32 32] 53 (0, 0)
/-- A writer in block S, its words in U and J. -/
structure WR (w : World) (B S U J : Nat) (xs : By) : Prop where
  row : ∃ v, w.heap[S]? = some (wrO v U J) ∧ w.ownsRow B 5 1 v xs.length (Lib.byteCells xs)
  base : B ≤ S
  us : w.heap[U]? = some (wsO unitW)
  js : w.heap[J]? = some (wsO tabW)
theorem WR.lt {w : World} {B S U J : Nat} {xs : By} (h : WR w B S U J xs) : S < w.heap.size := by
  obtain ⟨v, h1, _⟩ := h.row
  exact lt_of_block h1
theorem own_ty {w : World} {B e size n k : Nat} {v : Value} {xs : List Value} {cs : Array Value} {t : TypeId} {fr : Nat × Nat} (h : w.ownsRow B e size v n xs) (hk : w.heap[k]? = some (.cells cs t fr)) (ht : t ≠ e) : v.ownBlock ≠ some k := by
  rcases h.2 with ⟨rfl, _⟩ | ⟨g', cap, cur, rfl, _, hh, _⟩
  · simp [Value.ownBlock]
  · intro e1
    simp only [Value.ownBlock, Option.some.injEq] at e1
    subst e1
    rw [hh] at hk
    simp at hk
    exact ht hk.2.1.symm
theorem own_form {w : World} {B e size n : Nat} {v : Value} {xs : List Value} (h : w.ownsRow B e size v n xs) : ∃ a c, v = .slice a n c := by
  rcases h.2 with ⟨rfl, h0⟩ | ⟨g, cp, cur, rfl, _⟩
  · exact ⟨_, _, by rw [h0]⟩
  · exact ⟨_, _, rfl⟩
theorem own_keep {w w' : World} {B e size n : Nat} {v : Value} {xs : List Value} (h : w.ownsRow B e size v n xs) (hk : ∀ k, v.ownBlock = some k → w'.heap[k]? = w.heap[k]?) : w'.ownsRow B e size v n xs := by
  refine ⟨h.1, ?_⟩
  rcases h.2 with h2 | ⟨g', cap, cur, rfl, hB, hh, hr⟩
  · exact .inl h2
  · exact .inr ⟨g', cap, cur, rfl, hB, (hk g' rfl).trans hh, hr⟩
theorem WR.new {w w' : World} {B S U J : Nat} {xs : By} (h : WR w B S U J xs) (hb : Below w.heap.size w w') : WR w' B S U J xs := by
  obtain ⟨v, h1, h2⟩ := h.row
  exact ⟨⟨v, (hb.block _ (lt_of_block h1)).trans h1, own_keep h2 (fun k hk => hb.block k (h2.lt k hk).2)⟩, h.base, (hb.block _ (lt_of_block h.us)).trans h.us, (hb.block _ (lt_of_block h.js)).trans h.js⟩
theorem WR.alloc {w : World} {B S U J : Nat} {xs : By} (h : WR w B S U J xs) (o : Obj) : WR (w.alloc o) B S U J xs := h.new ((Below.refl _ _).alloc (Nat.le_refl _) _)
theorem wr_cells {w : World} {S U J : Nat} {v : Value} (h : w.heap[S]? = some (wrO v U J)) : w.cell? ⟨S, 0, none⟩ = some v ∧ w.cell? ⟨S, 1, none⟩ = some (.int .i64 2) ∧ w.cell? ⟨S, 2, none⟩ = some (.slice (some ⟨U, 0, none⟩) 3 3) ∧ w.cell? ⟨S, 3, none⟩ = some (.int .i64 1) ∧ w.cell? ⟨S, 4, none⟩ = some (.slice (some ⟨J, 0, none⟩) 32 32) ∧ w.frozen? ⟨S, 0, none⟩ = false := by
  simp [World.cell?, World.frozen?, h]

/-- What comes of a writing: the text behind it. -/
structure Wrote (B S U J : Nat) (ys : By) (w w' : World) : Prop where
  kp : Kp B w w'
  wr : WR w' B S U J ys

set_option maxHeartbeats 400000 in
theorem newWriter_any (B : Nat) (w : World) (hg : Hid (GV B w)) (hB : Hid (B ≤ w.heap.size)) :
    Calls Tryz.prog 8 #[] w fun e w' => ∃ S U J, e = .returned (.pointer (some ⟨S, 0, none⟩)) ∧ WR w' w.heap.size S U J [] ∧ Below w.heap.size w w' := by
  go_enter Tryz.func8, Tryz.ntmps8
  go_wp2_with fail
  refine (unitWords_any B w hg hB).mono ?_
  rintro e w1 ⟨U, rfl, hU, hUb, hb1⟩
  have HU := hide hUb
  have HB1 := hide hb1
  have hU1 := hide hU
  clear hUb hb1 hU
  go_wp2_with fail
  refine (instrWords_any B w1 (hide (hg.out.below HB1.out hB.out)) (hide (Nat.le_trans hB.out HB1.out.size))).mono ?_
  rintro e w2 ⟨J, rfl, hJ, hJb, hb2⟩
  have HJ := hide hJb
  have HB2 := hide hb2
  clear hJb hb2 hJ
  go_wp2
  go_ret
  refine ⟨w2.heap.size, U, J, rfl, ?_, below_on (below_on HB1.out HB2.out) ((Below.refl _ _).alloc (Nat.le_refl _) _)⟩
  have h2 : w2.heap[U]? = some (wsO unitW) := (HB2.out.block _ (lt_of_block HU.out)).trans HU.out
  refine ⟨⟨.slice none 0 0, heap_alloc_new _ _, ⟨by simp [Lib.byteCells], .inl ⟨rfl, rfl⟩⟩⟩, Nat.le_trans HB1.out.size HB2.out.size, (Below.heap_alloc _ _ _ (lt_of_block h2)).trans h2, (Below.heap_alloc _ _ _ (lt_of_block HJ.out)).trans HJ.out⟩

set_option maxHeartbeats 400000 in
theorem full_any (B S U J : Nat) (xs : By) (w : World) (h : Hid (WR w B S U J xs)) (b : Bool) (hb : Hid (b = full xs)) :
    Calls Tryz.prog 10 #[.pointer (some ⟨S, 0, none⟩)] w fun e w' => e = .returned (.bool b) ∧ w' = w := by
  obtain ⟨v, hS, hown⟩ := h.out.row
  obtain ⟨c0, _⟩ := wr_cells hS
  obtain ⟨a, c, rfl⟩ := own_form hown
  have e1 : decide ((60000 : Int) < (xs.length : Int)) = b := by rw [hb.out]; simp [full]; omega
  clear hS hown
  go_enter Tryz.func10, Tryz.ntmps10
  go_wp2
  go_ret
  exact ⟨by rw [← e1]; rfl, rfl⟩

theorem put_end {w w2 : World} {B S U J : Nat} {xs s : By} {v v' : Value} (hS : w.heap[S]? = some (wrO v U J)) (hown : w.ownsRow B 5 1 v xs.length (Lib.byteCells xs)) (hB : B ≤ S) (hU : w.heap[U]? = some (wsO unitW)) (hJ : w.heap[J]? = some (wsO tabW))
    (h2 : w2.ownsRow B 5 1 v' (xs.length + s.length) (Lib.byteCells xs ++ Lib.byteCells s)) (hg : w.grownBy w2 v.ownBlock) : Wrote B S U J (xs ++ s) w (w2.setCell ⟨S, 0, none⟩ v') := by
  have hlt := lt_of_block hS
  have hz := hg.size
  have blk : ∀ k, k < w.heap.size → v.ownBlock ≠ some k → w2.heap[k]? = w.heap[k]? := fun k hk h1 => hg.block k hk (fun e => h1 e.symm)
  have hS2 : w2.heap[S]? = some (wrO v U J) := (blk S hlt (own_ty hown hS (by decide))).trans hS
  have far : ∀ k cs t fr, w.heap[k]? = some (Obj.cells cs t fr) → t ≠ 5 → t ≠ 53 → (w2.setCell ⟨S, 0, none⟩ v').heap[k]? = some (Obj.cells cs t fr) := fun k cs t fr hk h3 h4 => by
    have hne : k ≠ S := fun e => by
      subst e
      rw [hS] at hk
      simp at hk
      exact h4 hk.2.1.symm
    rw [Below.heap_setCell _ ⟨S, 0, none⟩ _ _ hne, blk k (lt_of_block hk) (own_ty hown hk h3)]
    exact hk
  refine ⟨⟨⟨hg.os, hg.tape, hg.output, ?_, fun k hk => ?_⟩, ?_, far⟩, ⟨⟨v', ?_, ?_⟩, hB, far _ _ _ _ hU (by decide) (by decide), far _ _ _ _ hJ (by decide) (by decide)⟩⟩
  · simp [World.setCell]; omega
  · rw [Below.heap_setCell _ ⟨S, 0, none⟩ _ _ (by show k ≠ S; omega)]
    exact blk k (by omega) (fun e => by have := (hown.lt k e).1; omega)
  · simp [World.setCell]; omega
  · simp only [World.setCell, Array.getElem?_modify, if_true, hS2, Option.map_some]
    rfl
  · rw [List.length_append, Lib.byteCells_append]
    refine own_keep h2 (fun k hk => Below.heap_setCell _ _ _ _ (fun e => ?_))
    subst e
    exact own_ty h2 hS2 (by decide) hk

theorem size_bs (x : By) : (⟨x.toArray⟩ : ByteArray).size = x.length := by simp [ByteArray.size]
/-- Texts lie in a row of their own. -/
def StrsAt (w : World) (l : List By) (b : Nat) : Prop := ∃ cs fr, w.heap[b]? = some (.cells cs 9 fr) ∧ ∀ (i : Nat) (x : By), l[i]? = some x → cs[i]? = some (sv x)
theorem StrsAt.kp {B b : Nat} {w w' : World} {l : List By} (h : StrsAt w l b) (hk : Kp B w w') : StrsAt w' l b := by
  obtain ⟨cs, fr, h1, h2⟩ := h
  exact ⟨cs, fr, hk.blk _ _ _ _ h1 (by decide) (by decide), h2⟩
theorem StrsAt.cell {w : World} {l : List By} {b : Nat} (h : StrsAt w l b) {i : Nat} {x : By} (hx : l[i]? = some x) : w.cell? ⟨b, i, none⟩ = some (sv x) := by
  obtain ⟨cs, fr, h1, h2⟩ := h
  simp [World.cell?, h1, h2 i x hx]

set_option maxHeartbeats 1000000 in
theorem put_any (B S U J b : Nat) (l : List By) (xs : By) (w : World) (hl : l.length ≤ 2) (hin : Hid (StrsAt w l b)) (h : Hid (WR w B S U J xs)) (hf : Hid ((xs ++ l.flatten).length ≤ 70000)) (ys : By) (hy : Hid (ys = xs ++ l.flatten)) :
    Calls Tryz.prog 24 #[.pointer (some ⟨S, 0, none⟩), .slice (some ⟨b, 0, none⟩) l.length l.length] w fun e w' => e = .returned (.tuple #[]) ∧ Wrote B S U J ys w w' := by
  obtain ⟨i0, hi, hz0, hz1, hz2⟩ := info_parts Tryz.info5
  go_enter Tryz.func24, Tryz.ntmps24
  go_wp2
  go_loopw [8] (fun i wr => ∃ k : Nat, i = .int .i64 k ∧ k ≤ l.length ∧ Wrote B S U J (xs ++ (l.take k).flatten) w wr) (fun i _ => l.length - (intOf i).toNat)
  case atStart => exact ⟨0, rfl, Nat.zero_le _, Kp.refl _ _, by simpa using h.out⟩
  case round =>
    obtain ⟨k, rfl, hk, hA⟩ := hrel
    have HA := hide hA
    clear hA
    by_cases hlt : k < l.length
    · obtain ⟨x, hx⟩ : ∃ x, l[k]? = some x := ⟨_, List.getElem?_eq_getElem hlt⟩
      have cx := (hin.out.kp HA.out.kp).cell hx
      have HX := hide hx
      clear hx
      obtain ⟨zs, hzs⟩ : ∃ zs, zs = xs ++ (l.take k).flatten := ⟨_, rfl⟩
      have HZ : Hid (xs ++ (l.take (k + 1)).flatten = zs ++ x) := by
        unfold Hid
        obtain ⟨hk', rfl⟩ := List.getElem?_eq_some_iff.1 HX.out
        rw [hzs, List.take_succ_eq_append_getElem hk']
        simp only [List.flatten_append, List.flatten_cons, List.flatten_nil, List.append_nil, List.append_assoc]
      have HZL : Hid (zs.length + x.length ≤ 70000) := by
        unfold Hid
        have h1 := hf.out
        have h2 : xs ++ l.flatten = (zs ++ x) ++ (l.drop (k + 1)).flatten := by
          rw [← HZ.out, List.append_assoc, ← List.flatten_append, List.take_append_drop]
        rw [h2] at h1
        simp at h1
        omega
      have HW : Hid (WR wr B S U J zs) := by rw [hzs]; exact HA.out.wr
      have HK := hide HA.out.kp
      clear hzs HA
      obtain ⟨v, hS, hown⟩ := HW.out.row
      have hBS := HW.out.base
      have hSl := lt_of_block hS
      obtain ⟨c0, _, _, _, _, f0⟩ := wr_cells hS
      have HS := hide hS
      have HO := hide hown
      obtain ⟨av, cv, rfl⟩ := own_form hown
      clear hS hown
      go_wp2_with (at_builtin; refine Lib.wpList_append_own_string _ rfl _ _ 48 9 rfl B 5 i0 Tryz.underlying48 Tryz.underlying9 hi hz0 hz1 hz2 _ _ _ rfl HO.out ⟨x.toArray⟩ rfl (by rw [size_bs]; have := HZL.out; unfold maxLen; omega) (by rw [size_bs]; have := HZL.out; omega) (by omega) ?_; intro v' w2 hown' hgrow _; have HO2 : Hid (w2.ownsRow B 5 1 v' (zs.length + x.length) (Lib.byteCells zs ++ Lib.byteCells x)) := (by have := hown'; rw [size_bs, Lib.strCells_eq] at this; exact this); obtain ⟨a2, c2, hv2⟩ := own_form hown'; subst hv2; have HE := hide (put_end HS.out HO.out hBS HW.out.us HW.out.js HO2.out hgrow); have b0 : w2.frozen? ⟨S, 0, none⟩ = false := (by have := (hgrow.block S hSl (fun e => own_ty HO.out HS.out (by decide) e.symm)).trans HS.out; simp [World.frozen?, this]); have b1 : w2.cell? ⟨S, 0, none⟩ = some (.slice av zs.length cv) := (by have := (hgrow.block S hSl (fun e => own_ty HO.out HS.out (by decide) e.symm)).trans HS.out; simp [World.cell?, this]); clear hown' hgrow HO2)
      go_wp2
      go_roundw
      case rel => exact ⟨k + 1, by go_num, by omega, HK.out.trans HE.out.kp, by rw [HZ.out]; exact HE.out.wr⟩
      case measure => simp [intOf]; omega
    · obtain rfl : k = l.length := by omega
      have HR : Hid (Wrote B S U J ys w wr) := by have := HA.out; rw [List.take_length, ← hy.out] at this; exact this
      go_wp2
      go_end0
      exact ⟨rfl, HR.out⟩

end Go.Proofs.YtbdcmkmeljddmaaGreatDoor.Aw

