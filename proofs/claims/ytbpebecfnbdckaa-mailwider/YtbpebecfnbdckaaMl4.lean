/- The walk of mail.Play. -/
import Derived.Test.YtbpebecfnbdckaaMlN
namespace Go.Proofs.Ytbpebecfnbdckaa.Mb
open Go.RowKit

/-- Doings lie at a, below B. -/
def OpsIn (B : Nat) (w : World) (L : List Ml.Op) (a : Option Addr) : Prop :=
  ∀ i o, L[i]? = some o → ∃ b off, a = some ⟨b, off, none⟩ ∧ b < B ∧ w.cell? ⟨b, off + i * 2, none⟩ = some (.bool o.put) ∧ w.cell? ⟨b, off + i * 2 + 1, none⟩ = some (.int .i64 o.v)

theorem OpsIn.on {B : Nat} {w w' : World} {L : List Ml.Op} {a : Option Addr} (h : OpsIn B w L a) (hb : Below B w w') : OpsIn B w' L a := fun i o ho => by
  obtain ⟨b, off, e, hlt, c0, c1⟩ := h i o ho
  exact ⟨b, off, e, hlt, (hb.cell (p := ⟨b, _, none⟩) hlt).trans c0, (hb.cell (p := ⟨b, _, none⟩) hlt).trans c1⟩
theorem OpsIn.wide {B B' : Nat} {w : World} {L : List Ml.Op} {a : Option Addr} (h : OpsIn B w L a) (hB : B ≤ B') : OpsIn B' w L a := fun i o ho => by
  obtain ⟨b, off, e, hlt, r⟩ := h i o ho
  exact ⟨b, off, e, by omega, r⟩

def gotc (g : Ml.Got) : List Value := [.bool g.ok, .int .i64 g.v]
def gotCells (l : List Ml.Got) : List Value := l.flatMap gotc

theorem gotCells_len : ∀ l, (gotCells l).length = l.length * 2
  | [] => rfl
  | o :: l => by have := gotCells_len l; simp only [gotCells, List.flatMap_cons, List.length_append, List.length_cons] at *; simp only [this, gotc, List.length_cons, List.length_nil]; omega
theorem gotCells_app (l : List Ml.Got) (g : Ml.Got) : gotCells (l ++ [g]) = gotCells l ++ [.bool g.ok, .int .i64 g.v] := by simp [gotCells, gotc]
theorem gotCells_get : ∀ (l : List Ml.Got) (i : Nat) (o : Ml.Got), l[i]? = some o → ∀ j, j < 2 → (gotCells l)[i * 2 + j]? = (gotc o)[j]?
  | [], i, o, h, _, _ => by simp at h
  | x :: l, 0, o, h, j, hj => by
    simp at h; subst h
    simp only [gotCells, List.flatMap_cons, Nat.zero_mul, Nat.zero_add]
    rw [List.getElem?_append_left (by simpa [gotc] using hj)]
  | x :: l, i + 1, o, h, j, hj => by
    have ih := gotCells_get l i o (by simpa using h) j hj
    simp only [gotCells, List.flatMap_cons] at ih ⊢
    rw [List.getElem?_append_right (by simp [gotc]; omega)]
    have e : (i + 1) * 2 + j - (gotc x).length = i * 2 + j := by simp [gotc]; omega
    rw [e, ih]

theorem add_none (b off j : Nat) : (⟨b, off, none⟩ : Addr).add j = ⟨b, off + j, none⟩ := by unfold Addr.add; split <;> simp_all

theorem got_news (W : World) (p : Bool) (x : Int) (t : TypeId) : ∀ j u, [Value.bool p, .int .i64 x][j]? = some u → (W.alloc (.cells #[.bool p, .int .i64 x] t)).cell? ((⟨W.heap.size, 0, none⟩ : Addr).add j) = some u := by
  intro j u hu
  rw [add_none, World.cell?_alloc_mark]
  match j, hu with
  | 0, hu => simpa using hu
  | 1, hu => simpa using hu
  | n + 2, hu => simp at hu
theorem got_one (p : Bool) (x : Int) : ∀ u ∈ [Value.bool p, .int .i64 x], u.oneCell' = true := by
  intro u hu
  simp only [List.mem_cons, List.not_mem_nil, or_false] at hu
  rcases hu with rfl | rfl <;> rfl

/-- What holds at the head of Play's loop. -/
structure PlAt (n : Nat) (L : List Ml.Op) (w : World) (S : Nat) (k : Nat) (v : Value) (W : World) : Prop where
  le : k ≤ L.length
  box : ∃ g f, BX W S g (Ml.upto n L k).2 f n ∧ w.heap.size ≤ g
  own : W.ownsRow w.heap.size 30 2 v k (gotCells (Ml.upto n L k).1)
  below : Below w.heap.size w W

theorem pl_start {n : Nat} (L : List Ml.Op) {w w1 : World} {S g : Nat} (hg : w.heap.size ≤ g) (h : BX w1 S g [] 0 n) (hb : Below w.heap.size w w1) : PlAt n L w S 0 (.slice none 0 0) w1 :=
  ⟨Nat.zero_le _, ⟨g, 0, h, hg⟩, World.ownsRow_nil _ _ _ _, hb⟩

/-- Behind a doing, and its being noted. -/
theorem PlAt.next {n : Nat} {L : List Ml.Op} {w : World} {S : Nat} {k : Nat} {v v' : Value} {wr w2 w3 : World} {o : Ml.Op} {ob ob2 : Obj} {g f : Nat} {f' : Nat} {G : Ml.Got} {ws' : List Int} (h : PlAt n L w S k v wr) (ho : L[k]? = some o) (hB : BX wr S g (Ml.upto n L k).2 f n) (hg : w.heap.size ≤ g) (hS : w.heap.size ≤ S)
    (hG : G = Ml.got n (Ml.upto n L k).2 o) (hw : ws' = Ml.wds n (Ml.upto n L k).2 o) (hB2 : BX w2 S g ws' f' n) (hM : Mv (wr.alloc ob) w2 S g)
    (hown : w2.ownsRow w.heap.size 30 2 v k (gotCells (Ml.upto n L k).1) → w3.ownsRow w.heap.size 30 2 v' (k + 1) (gotCells (Ml.upto n L k).1 ++ [.bool G.ok, .int .i64 G.v])) (hgr : (w2.alloc ob2).grownBy w3 v.ownBlock) : PlAt n L w S (k + 1) v' w3 := by
  obtain ⟨cs, hc, _⟩ := hB.row
  obtain ⟨cs2, hc2, hr2⟩ := hB2.row
  have hz := hM.size
  simp at hz
  have hzz := h.below.size
  have hz3 := hgr.size
  simp at hz3
  have blk : ∀ j, j < wr.heap.size → j ≠ S → j ≠ g → w2.heap[j]? = wr.heap[j]? := fun j hj h1 h2 => (hM.block j (by simp; omega) h1 h2).trans (Below.heap_alloc _ _ _ hj)
  have blk3 : ∀ j, j < w2.heap.size → v.ownBlock ≠ some j → w3.heap[j]? = w2.heap[j]? := fun j hj h1 => (hgr.block j (by simp; omega) (fun e => h1 e.symm)).trans (Below.heap_alloc _ _ _ hj)
  have ho2 : w2.ownsRow w.heap.size 30 2 v k (gotCells (Ml.upto n L k).1) := own_keep h.own (fun j hj => blk j (h.own.lt j hj).2 (fun e => by subst e; exact own_ty h.own hB.blk (by decide) hj) (fun e => by subst e; exact own_ty h.own hc (by decide) hj))
  have hb2 : Below w.heap.size w w2 := ⟨hM.os.trans h.below.os, hM.tape.trans h.below.tape, hM.output.trans h.below.output, by omega, fun j hj => by rw [blk j (by omega) (by omega) (by omega)]; exact h.below.block j hj⟩
  have hup := Ml.upto_next (n := n) ho
  refine ⟨(List.getElem?_eq_some_iff.1 ho).1, ⟨g, f', ?_, hg⟩, ?_, (hb2.alloc (by omega) _).grown hgr (by simp; omega) (fun j hj => (ho2.lt j hj).1)⟩
  · rw [hup, ← hw]
    exact ⟨(blk3 _ (lt_of_block hB2.blk) (own_ty ho2 hB2.blk (by decide))).trans hB2.blk, ⟨cs2, (blk3 _ (lt_of_block hc2) (own_ty ho2 hc2 (by decide))).trans hc2, hr2⟩, hB2.few, hB2.at', hB2.most⟩
  · rw [hup, gotCells_app, ← hG]
    exact hown ho2

/-- What a doing leaves of the row of what came of them. -/
theorem PlAt.mid {n : Nat} {L : List Ml.Op} {w : World} {S : Nat} {k : Nat} {v : Value} {wr w2 : World} {ob : Obj} {g f : Nat} (h : PlAt n L w S k v wr) (hB : BX wr S g (Ml.upto n L k).2 f n) (hM : Mv (wr.alloc ob) w2 S g) : w2.ownsRow w.heap.size 30 2 v k (gotCells (Ml.upto n L k).1) ∧ w.heap.size ≤ w2.heap.size := by
  obtain ⟨cs, hc, _⟩ := hB.row
  have hz := hM.size
  simp at hz
  have hzz := h.below.size
  have blk : ∀ j, j < wr.heap.size → j ≠ S → j ≠ g → w2.heap[j]? = wr.heap[j]? := fun j hj h1 h2 => (hM.block j (by simp; omega) h1 h2).trans (Below.heap_alloc _ _ _ hj)
  exact ⟨own_keep h.own (fun j hj => blk j (h.own.lt j hj).2 (fun e => by subst e; exact own_ty h.own hB.blk (by decide) hj) (fun e => by subst e; exact own_ty h.own hc (by decide) hj)), by omega⟩

set_option maxHeartbeats 400000 in
theorem play_range (n : Int) (L : List Ml.Op) (a : Option Addr) (c : Nat) (w : World) (h : n < 1 ∨ 20 < n) :
    Calls Try.prog 6 #[.int .i64 n, .slice a L.length c] w fun e w' => e = .returned (.tuple #[.slice none 0 0, .slice none 0 0, .int .i64 3]) ∧ w' = w := by
  have H := hide h
  clear h
  go_enter Try.func6, Try.ntmps6
  go_wp2_with fail
  refine (mnew_range n _ H.out).mono ?_
  rintro e w' ⟨rfl, rfl⟩
  go_wp2
  refine bodyPost_ret (v := .tuple #[.slice none 0 0, .slice none 0 0, .int .i64 3]) (by simp [results, Try.results6, go_sem]) rfl ⟨rfl, rfl⟩

set_option maxHeartbeats 1000000 in
theorem play_go (n : Nat) (L : List Ml.Op) (a : Option Addr) (c : Nat) (w : World) (hin : Hid (OpsIn w.heap.size w L a)) (hlen : L.length ≤ 8796093022200) (h1 : 1 ≤ n) (h3 : n ≤ 20) :
    Calls Try.prog 6 #[.int .i64 n, .slice a L.length c] w fun e w' => ∃ v1 v2, e = .returned (.tuple #[v1, v2, .int .i64 0]) ∧ w'.ownsRow w.heap.size 30 2 v1 L.length (gotCells (Ml.upto n L L.length).1) ∧ w'.ownsRow w.heap.size 2 1 v2 (Ml.upto n L L.length).2.length (ints (Ml.upto n L L.length).2) ∧ Below w.heap.size w w' := by
  obtain ⟨i1, hi1, hy0, hy1, hy2⟩ := info_parts Try.info30
  go_enter Try.func6, Try.ntmps6
  go_wp2_with fail
  refine (mnew_any n _ h1 h3).mono ?_
  rintro e w1 ⟨S, rfl, hX, hSz, hb0⟩
  have HS0 := hide (pl_start L (Nat.le_refl _) hX hb0)
  have hS1 : w.heap.size ≤ S := Nat.le_of_lt hSz
  clear hX hSz hb0
  go_wp2
  go_loopw [9, 22] (fun v i wr => ∃ k : Nat, i = .int .i64 k ∧ PlAt n L w S k v wr) (fun _ i _ => L.length - (intOf i).toNat)
  case atStart => exact ⟨0, rfl, HS0.out⟩
  case round =>
    obtain ⟨k, rfl, hA⟩ := hrel
    clear HS0
    have HA := hide hA
    have hk := hA.le
    have hsz := hA.below.size
    obtain ⟨g, f, hBX, hg⟩ := hA.box
    have HBX := hide hBX
    clear hA hBX
    by_cases hlt : k < L.length
    · obtain ⟨o, ho⟩ : ∃ o, L[k]? = some o := ⟨_, List.getElem?_eq_getElem hlt⟩
      obtain ⟨b, off, rfl, hbl, c0, c1⟩ := hin.out.on HA.out.below k o ho
      have HOP := hide ho
      clear ho
      obtain ⟨G, hG⟩ : ∃ G, G = Ml.got n (Ml.upto n L k).2 o := ⟨_, rfl⟩
      obtain ⟨ws2, hws2⟩ : ∃ ws2, ws2 = Ml.wds n (Ml.upto n L k).2 o := ⟨_, rfl⟩
      have HG := hide hG
      have HW := hide hws2
      clear hG hws2
      go_wp2_with fail
      refine (do_any S g (Ml.upto n L k).2 f n o _ (hide (HBX.out.alloc _)) G HG ws2 HW).mono ?_
      rintro e w2 ⟨rfl, ⟨f', hb2⟩, hm2⟩
      have HB2 := hide hb2
      have HM2 := hide hm2
      obtain ⟨hO2, hz2⟩ := HA.out.mid HBX.out hm2
      have HO2 := hide hO2
      clear hb2 hm2 hO2 c0 c1
      go_wp2_with (at_builtin; refine wpList_append_own _ rfl _ _ 23 rfl w.heap.size 30 i1 (.agg #[.bool false, .int .i64 0]) 2 16 Try.underlying23 hi1 hy0 hy1 hy2 rfl (by decide) _ _ _ rfl (HO2.out.alloc _) ⟨w2.heap.size, 0, none⟩ 1 1 [.bool G.ok, .int .i64 G.v] rfl rfl (got_news _ _ _ _) (got_one _ _) (by unfold maxLen; omega) (by omega) (by simp; omega) ?_)
      intro v' w3 hown' hgrow _
      have HREL : Hid (PlAt n L w S (k + 1) v' w3) := HA.out.next HOP.out HBX.out hg hS1 HG.out HW.out HB2.out HM2.out (fun _ => hown') hgrow
      clear hown' hgrow
      go_wp2
      go_roundw
      case rel => exact ⟨k + 1, by go_num, HREL.out⟩
      case measure => simp [intOf]; omega
    · obtain rfl : k = L.length := by omega
      go_wp2_with fail
      refine (words_any S g (Ml.upto n L L.length).2 f n _ HBX).mono ?_
      rintro e w4 ⟨v, rfl, hown4, hb4⟩
      have HO4 := hide (own_base hown4 HA.out.below.size)
      have HO := hide (own_keep HA.out.own (fun k hk => hb4.block k (HA.out.own.lt k hk).2))
      have HB4 : Hid (Below w.heap.size w w4) := HA.out.below.trans (hb4.mono HA.out.below.size)
      clear hown4 hb4
      go_wp2
      refine bodyPost_ret (v := .tuple #[u9, v, .int .i64 0]) (by simp [results, Try.results6, go_sem]) rfl ?_
      exact ⟨_, _, rfl, HO.out, HO4.out, HB4.out⟩

/-- WHAT mail.Play ANSWERS. -/
theorem play_any (n : Int) (L : List Ml.Op) (a : Option Addr) (c : Nat) (w : World) (hin : Hid (OpsIn w.heap.size w L a)) (hlen : L.length ≤ 8796093022200) (gs : List Ml.Got) (ws : List Int) (E : Nat) (hgo : Hid (Ml.play n L = (gs, ws, E))) :
    Calls Try.prog 6 #[.int .i64 n, .slice a L.length c] w fun e w' => ∃ v1 v2, e = .returned (.tuple #[v1, v2, .int .i64 E]) ∧ w'.ownsRow w.heap.size 30 2 v1 gs.length (gotCells gs) ∧ w'.ownsRow w.heap.size 2 1 v2 ws.length (ints ws) ∧ Below w.heap.size w w' := by
  have hh := hgo.out
  unfold Ml.play at hh
  by_cases h : n < 1 ∨ 20 < n
  · refine (play_range n L a c w h).mono ?_
    rintro e w' ⟨rfl, rfl⟩
    rw [if_pos h] at hh
    simp only [Prod.mk.injEq] at hh
    obtain ⟨rfl, rfl, rfl⟩ := hh
    exact ⟨_, _, rfl, World.ownsRow_nil _ _ _ _, World.ownsRow_nil _ _ _ _, Below.refl _ _⟩
  · rw [if_neg h] at hh
    simp only [Prod.mk.injEq] at hh
    obtain ⟨rfl, rfl, rfl⟩ := hh
    obtain ⟨m, rfl⟩ : ∃ m : Nat, n = m := ⟨n.toNat, by omega⟩
    have hl := Ml.upto_len (n := m) (L := L) L.length (Nat.le_refl _)
    simp only [Int.toNat_natCast] at *
    rw [hl]
    exact play_go m L a c w hin hlen (by omega) (by omega)

end Go.Proofs.Ytbpebecfnbdckaa.Mb
