/- The walk of the document's Parse, where the sum fits (its regions' trees are laid by tools/mkimage2.py). -/
import Derived.Test.YtnfkfgpnojdfoaaIm27
import Derived.Test.YtnfkfgpnojdfoaaIm19
import Derived.Deep.DeepCutAuto
namespace Go.Proofs.Ytnfkfgpnojdfoaa
open Go.RowKit

namespace Im
theorem rep_succ {α β : Type} (f : List Nat → Option (α × List Nat)) (n : Nat) (l : List Nat) (G : List α × List Nat → Option β) : (rep f (n + 1) l).bind G = (f l).bind fun p => (rep f n p.2).bind fun q => G (p.1 :: q.1, q.2) := by
  simp only [rep, Option.bind_assoc, Option.bind_some]
theorem rep_zero {α β : Type} (f : List Nat → Option (α × List Nat)) (l : List Nat) (G : List α × List Nat → Option β) : (rep f 0 l).bind G = G ([], l) := rfl
theorem rbox_bind {β : Type} (l : List Nat) (H : Bx × List Nat → Option β) : (rbox l).bind H = (rn l).bind fun p => (rn p.2).bind fun q => H (⟨p.1, q.1⟩, q.2) := by
  simp only [rbox, rtwo, Option.bind_assoc, Option.bind_some]
theorem rins_bind {β : Type} (l : List Nat) (H : Ins × List Nat → Option β) : (rins l).bind H = (rn l).bind fun p => (rn p.2).bind fun q => (rn q.2).bind fun s => H (⟨p.1, q.1, s.1⟩, s.2) := by
  simp only [rins, rtwo, Option.bind_assoc, Option.bind_some]
theorem runit_bind {β : Type} (l : List Nat) (H : Un × List Nat → Option β) : (runit l).bind H = (rn l).bind fun p => (rn p.2).bind fun q => (rcount q.2).bind fun n => (rep rn n.1.toNat n.2).bind fun ls => (rn ls.2).bind fun s => (rn s.2).bind fun t => (rcount t.2).bind fun k => (rep rins k.1.toNat k.2).bind fun cs => H (⟨p.1, q.1, ls.1, s.1, t.1, cs.1⟩, cs.2) := by
  simp only [runit, rtwo, Option.bind_assoc, Option.bind_some]
/-- What is left behind the boxes, and behind the units. -/
def end2 (bs : List Bx) (us : List Un × List Nat) : Option Md := if us.2 = [] then some ⟨bs, us.1⟩ else none
def end1 (bs : List Bx × List Nat) : Option Md := (rcount bs.2).bind fun k => (rep runit k.1.toNat k.2).bind (end2 bs.1)
def duU (ys : List Bx) (pre : List Un) (k : Nat) (u : Un) (l : List Nat) : Option Md := (rep runit k l).bind fun q => end2 ys (pre ++ [u] ++ q.1, q.2)
def du7 (ys : List Bx) (pre : List Un) (k : Nat) (x1 x2 : Int) (ls : List Int) (x3 x4 : Int) (cs : List Ins × List Nat) : Option Md := duU ys pre k ⟨x1, x2, ls, x3, x4, cs.1⟩ cs.2
def du6 (ys : List Bx) (pre : List Un) (k : Nat) (x1 x2 : Int) (ls : List Int) (x3 x4 : Int) (l : List Nat) : Option Md := (rcount l).bind fun kk => (rep rins kk.1.toNat kk.2).bind (du7 ys pre k x1 x2 ls x3 x4)
def du5 (ys : List Bx) (pre : List Un) (k : Nat) (x1 x2 : Int) (ls : List Int) (x3 : Int) (l : List Nat) : Option Md := (rn l).bind fun t => du6 ys pre k x1 x2 ls x3 t.1 t.2
def du4 (ys : List Bx) (pre : List Un) (k : Nat) (x1 x2 : Int) (ls : List Int × List Nat) : Option Md := (rn ls.2).bind fun s => du5 ys pre k x1 x2 ls.1 s.1 s.2
def du3 (ys : List Bx) (pre : List Un) (k : Nat) (x1 x2 : Int) (l : List Nat) : Option Md := (rcount l).bind fun n => (rep rn n.1.toNat n.2).bind (du4 ys pre k x1 x2)
def du2 (ys : List Bx) (pre : List Un) (k : Nat) (x1 : Int) (l : List Nat) : Option Md := (rn l).bind fun q => du3 ys pre k x1 q.1 q.2
theorem rmod_due (l : List Nat) : rmod l = (rcount l).bind fun n => (rep rbox n.1.toNat n.2).bind end1 := rfl
end Im

theorem FW.walk {T b D : Nat} {cs : List Value} {tD : TypeId} {fo : Nat} {e : TypeId} {sz : Nat} {wa : World} {k : Nat} {row : List Value} {L : List Nat} {i i' : Nat} {bad bad' : Bool} {v : Value} {W w1 : World} (h : FW T b D cs tD fo e sz wa k row L i bad v W) (hDT : D ≠ T) (hT : T < wa.heap.size) (hk : Kr T W w1) (hwk : WK w1 T b L i' bad') : FW T b D cs tD fo e sz wa k row L i' bad' v w1 :=
  ⟨h.kr.trans hk.two, hwk, (hk.blk D (lt_of_block h.blk) hDT).trans h.blk, h.row hT hk⟩

theorem due_end {α β : Type} {r : Option β} {bad : Bool} {f : List Nat → Option (α × List Nat)} {rem : Nat} {l : List Nat} {xs : List α} {G : List α × List Nat → Option β} (h : Due r bad ((Im.rep f rem l).bind fun q => G (xs ++ q.1, q.2))) (hr : bad = true ∨ rem = 0) : Due r bad (G (xs, l)) := by
  unfold Due at h ⊢
  rcases hr with rfl | rfl
  · exact h
  · rw [Im.rep_zero, List.append_nil] at h
    exact h
theorem due_next {α β : Type} {r : Option β} {f : List Nat → Option (α × List Nat)} {k : Nat} {l : List Nat} {xs : List α} {G : List α × List Nat → Option β} (h : Due r false ((Im.rep f (k + 1) l).bind fun q => G (xs ++ q.1, q.2))) : Due r false ((f l).bind fun p => (Im.rep f k p.2).bind fun q => G (xs ++ [p.1] ++ q.1, q.2)) := by
  rw [Im.rep_succ] at h
  simpa only [List.append_assoc, List.singleton_append] using h

/-- A struct that is filled while the walk goes on. -/
structure UW (T b D : Nat) (cs : List Value) (t : TypeId) (L : List Nat) (i : Nat) (bad : Bool) (wb W : World) : Prop where
  kr : Kr2 T D wb W
  wk : WK W T b L i bad
  blk : W.heap[D]? = some (.cells cs.toArray t (0, 0))
theorem UW.walk {T b D : Nat} {cs : List Value} {t : TypeId} {L : List Nat} {i i' : Nat} {bad bad' : Bool} {wb W w1 : World} (h : UW T b D cs t L i bad wb W) (hDT : D ≠ T) (hk : Kr T W w1) (hwk : WK w1 T b L i' bad') : UW T b D cs t L i' bad' wb w1 :=
  ⟨h.kr.trans hk.two, hwk, (hk.blk D (lt_of_block h.blk) hDT).trans h.blk⟩
theorem UW.put {T b D : Nat} {cs : List Value} {t : TypeId} {L : List Nat} {i i' : Nat} {bad bad' : Bool} {wb W w1 : World} (h : UW T b D cs t L i bad wb W) (hDT : D ≠ T) (hDb : D ≠ b) (hk : Kr T W w1) (hwk : WK w1 T b L i' bad') (fo : Nat) (hfo : fo < cs.length) (v : Value) :
    (∃ u, w1.cell? ⟨D, fo, none⟩ = some u) ∧ w1.frozen? ⟨D, fo, none⟩ = false ∧ UW T b D (cs.set fo v) t L i' bad' wb (w1.setCell ⟨D, fo, none⟩ v) := by
  have h1 := h.walk hDT hk hwk
  refine ⟨⟨cs[fo], ?_⟩, ?_, h1.kr.set fo v, ?_, set_rowR h1.blk fo v⟩
  · simp [World.cell?, h1.blk, hfo]
  · simp [World.frozen?, h1.blk]
  · exact hwk.far (Below.heap_setCell _ ⟨D, fo, none⟩ _ _ (fun e => hDT e.symm)) (Below.heap_setCell _ ⟨D, fo, none⟩ _ _ (fun e => hDb e.symm)) (by simp [World.setCell])
theorem UrIn.base {B C : Nat} {W : World} {x : UR} (h : UrIn C W x) (hB : B ≤ C) : UrIn B W x := ⟨own_base h.l hB, own_base h.c hB⟩
theorem ur_gen {B B' D fo k : Nat} {w1 w4 : World} {x : UR} {v v' : Value} {row : List Value} {ob : Obj} {cs : Array Value} {fr : Nat × Nat} (h : UrIn B w1 x) (hD1 : w1.heap[D]? = some (.cells cs 25 fr)) (hrow : w1.ownsRow B' 52 6 v k row) (hg : (w1.alloc ob).grownBy w4 v.ownBlock) : UrIn B (w4.setCell ⟨D, fo, none⟩ v') x := by
  refine h.keep (fun j cs' t fr hB hb ht => ?_)
  have hne : j ≠ D := fun e => by
    subst e
    rw [hD1] at hb
    simp at hb
    rcases ht with rfl | rfl <;> exact absurd hb.2.1 (by decide)
  rw [Below.heap_setCell _ ⟨D, fo, none⟩ _ _ hne, hg.block j (by have := lt_of_block hb; simp; omega) (fun e => own_ty hrow hb (by rcases ht with rfl | rfl <;> decide) e.symm)]
  exact Below.heap_alloc _ _ _ (lt_of_block hb)

theorem news_atq (W : World) (cs : List Value) (t : TypeId) (q : Nat) (hq : q = W.heap.size) : ∀ j u', cs[j]? = some u' → (W.alloc (.cells cs.toArray t)).cell? ((⟨q, 0, none⟩ : Addr).add j) = some u' := by
  subst hq; exact news_at W cs t
theorem size_set (w : World) (a : Addr) (u : Value) : w.heap.size = (w.setCell a u).heap.size := by simp [World.setCell]









set_option maxRecDepth 100000 in
set_option maxHeartbeats 8000000 in
theorem rparse_go (p : List Nat) (x y : Nat) (a : Option Addr) (c : Nat) (w : World) (hin : Hid (BIn w (p ++ [x, y]) a)) (LL : Nat) (hLL : Hid (LL = p.length + 2)) (hl : (LL : Int) ≤ 60000) (hc : LL ≤ c) (s : Nat) (hs : Hid (s = Im.sum p)) (hne : Hid (s = x * 256 + y)) (r : Option Im.Md) (hr : Hid (r = Im.rmod p)) (er : Int) (her : Hid (er = if r = none then 2 else 0)) :
    Calls Try.prog 12 #[.slice a LL c] w fun e w' => ∃ ab cb au cu, e = .returned (.tuple #[mdV (r.getD ⟨[], []⟩) ab au cb cu, .int .i64 er]) ∧ MdT w.heap.size w' (r.getD ⟨[], []⟩) ab au cb cu ∧ Below w.heap.size w w' := by
  obtain ⟨i0, hi, hz0, hz1, hz2⟩ := info_parts Try.info48
  obtain ⟨hx, b, off, rfl, cx⟩ := hin.out p.length x (by simp)
  obtain ⟨hy, b', off', e, cy⟩ := hin.out (p.length + 1) y (by simp)
  simp at e
  obtain ⟨rfl, rfl⟩ := e
  have hbl : b < w.heap.size := by
    obtain ⟨b1, o1, e, h⟩ := hin.out.lt (by simp)
    simp at e
    rw [e.1]; exact h
  have HIN : Hid (BIn (w.alloc Zm) p (some ⟨b, off, none⟩)) := (hin.out.alloc _).pre
  have e1 : ¬ (60000 : Int) < (LL : Int) := by omega
  have eK : IntKind.i64.wrap ((LL : Int) - 2) = (p.length : Int) := by have := hLL.out; rw [IntKind.wrap_i64]; omega
  have n1 : (p.length : Int) < (LL : Int) := by have := hLL.out; omega
  have n2 : (p.length : Int) + 1 < (LL : Int) := by have := hLL.out; omega
  have hp6 : (p.length : Int) ≤ 59998 := by have := hLL.out; omega
  have hs16 : s < 65536 := by rw [hs.out]; exact Im.sum_lt p
  have d1 : IntKind.u8.wrap ((s : Int) / 256) = (x : Int) := by have := hne.out; rw [wrap_u8]; omega
  have d2 : IntKind.u8.wrap ((s : Int) % 256) = (y : Int) := by have := hne.out; rw [wrap_u8]; omega
  have d3 : ((x : Int) != (x : Int)) = false := by simp
  have d4 : ((y : Int) != (y : Int)) = false := by simp
  have HOK : Hid (Im.Ok p) := fun z hz => by
    obtain ⟨i, hi⟩ := List.mem_iff_getElem?.1 hz
    exact (hin.out i z (by rw [List.getElem?_append_left (List.getElem?_eq_some_iff.1 hi).1]; exact hi)).1
  have e2 : ¬ (p.length : Int) < 0 := by omega
  have hcp : p.length ≤ c := by omega
  clear hin hne hl hc
  go_enter Try.func12, Try.ntmps12
  go_wp2_with fail
  refine (rsum_any p (some ⟨b, off, none⟩) c (by omega) _ HIN s hs).mono ?_
  rintro e w1 ⟨rfl, rfl⟩
  go_wp2_with fail
  clear cx cy d1 d2 d3 d4 e1 eK n1 n2
  generalize hWc : (((w.alloc Zm).alloc (.cells #[.slice (some ⟨b, off, none⟩) p.length c, .int .i64 0, .bool false] 61)).alloc (.cells #[.slice none 0 0, .slice none 0 0] 25)) = Wc
  have hcs : Wc.heap.size = w.heap.size + 3 := by rw [← hWc]; simp
  have hcN : Wc.heap[w.heap.size]? = some Zm := by
    rw [← hWc, Below.heap_alloc _ _ _ (by simp; omega), Below.heap_alloc _ _ _ (by simp)]
    exact heap_alloc_new w Zm
  have hcT : Wc.heap[w.heap.size + 1]? = some (.cells #[.slice (some ⟨b, off, none⟩) p.length c, .int .i64 0, .bool false] 61 (0, 0)) := by
    rw [← hWc, Below.heap_alloc _ _ _ (by simp)]
    exact alloc_at2 _ _ _
  have hcM : Wc.heap[w.heap.size + 1 + 1]? = some (.cells [Value.slice none 0 0, .slice none 0 0].toArray 25 (0, 0)) := by
    have := heap_alloc_new ((w.alloc Zm).alloc (.cells #[.slice (some ⟨b, off, none⟩) p.length c, .int .i64 0, .bool false] 61)) Zm
    rw [← hWc]
    simpa using this
  have hcb : BIn Wc p (some ⟨b, off, none⟩) := by rw [← hWc]; exact (HIN.out.alloc _).alloc _
  have HcW : Hid (Below w.heap.size w Wc) := by rw [← hWc]; exact (((Below.refl _ w).alloc (Nat.le_refl _) _).alloc (by simp) _).alloc (by simp; omega) _
  have HWK : Hid (WK Wc (w.heap.size + 1) b p 0 false) := ⟨⟨off, c, hcT, fun i z hz => by obtain ⟨_, b2, o2, e, h⟩ := hcb i z hz; simp at e; obtain ⟨rfl, rfl⟩ := e; exact h⟩, HOK.out, by omega, Nat.zero_le _, by omega, by omega⟩
  have HM := hide hcM
  have HNN := hide hcN
  have HCS := hide hcs
  obtain ⟨N, hN⟩ : ∃ N, N = w.heap.size := ⟨_, rfl⟩
  rw [← hN] at HWK HM HNN HCS hbl
  have HNW := hide hN
  rw [← hN]
  clear hWc hcT hcM hcb hcN hcs HIN hN
  have HD0 : Hid (Due r false ((Im.rcount (p.drop 0)).bind fun n => (Im.rep Im.rbox n.1.toNat n.2).bind Im.end1)) := by
    unfold Hid Due
    rw [hr.out, Im.rmod_due]
    rfl
  refine (count_k (N + 1) b p 0 false _ HWK Im.rbox (hide (fun _ _ _ => Im.rbox_lt)) Im.end1 r HD0).mono ?_
  rintro e w3 ⟨n, i, bad, rfl, hn6, hW3, hK3, hD3⟩
  have HM3 : Hid (w3.heap[N + 1 + 1]? = some (.cells [Value.slice none 0 0, .slice none 0 0].toArray 25 (0, 0))) := (hK3.blk _ (lt_of_block HM.out) (by omega)).trans HM.out
  have HN3 : Hid (w3.heap[N]? = some Zm) := (hK3.blk _ (lt_of_block HNN.out) (by omega)).trans HNN.out
  have HFS := hide (FW.start (fo := 0) 48 2 hW3 HM3.out rfl)
  have HD3 := hide hD3
  have HK3 := hide hK3
  have hs3 : N + 3 ≤ w3.heap.size := by have := hK3.size; rw [HCS.out] at this; exact this
  have hTa : N + 1 < w3.heap.size := by omega
  have hba : b < w3.heap.size := by omega
  clear hW3 hK3 hD3 HM HNN HWK
  go_wp2
  go_loopw [8] (fun nv wr => ∃ (rem : Nat) (xs : List Im.Bx) (i : Nat) (bad : Bool) (v : Value), nv = .int .i64 rem ∧ xs.length + rem ≤ 60000 ∧ Due r bad ((Im.rep Im.rbox rem (p.drop i)).bind fun q => Im.end1 (xs ++ q.1, q.2)) ∧ FW (N + 1) b (N + 1 + 1) [Value.slice none 0 0, .slice none 0 0] 25 0 48 2 w3 xs.length (xs.flatMap boxc) p i bad v wr) (fun nv _ => (intOf nv).toNat)
  case atStart => exact ⟨n, [], i, bad, _, rfl, by simpa using hn6, HD3.out, HFS.out⟩
  case round =>
    obtain ⟨rem, xs, i, bad, v, rfl, hlen, hD, hF⟩ := hrel
    have HD := hide hD
    have HF := hide hF
    obtain ⟨o, cc, c0, c1, c2, f1, f2, _⟩ := hF.wk.cells
    clear hD hF HFS HD3
    obtain ⟨goB, hgo⟩ : ∃ g, g = decide (bad = false ∧ 0 < rem) := ⟨_, rfl⟩
    have HGO := hide hgo
    clear hgo
    go_upto_region 12 with fail
    go_cut [64] (fun v wx => v = .bool goB ∧ wx = wr)
    case first =>
      by_cases h0 : 0 < rem
      · have g1 : (0 : Int) < (rem : Int) := by omega
        have HG : Hid ((!bad) = goB) := by unfold Hid; rw [HGO.out]; cases bad <;> simp [h0]
        clear h0
        go_wp2_with fail
        go_meet
        exact ⟨by rw [← HG.out], rfl⟩
      · have g1 : ¬ (0 : Int) < (rem : Int) := by omega
        have HG : Hid (false = goB) := by unfold Hid; rw [HGO.out]; simp [h0]
        clear h0
        go_wp2_with fail
        go_meet
        exact ⟨by rw [← HG.out], rfl⟩
    case rest =>
    obtain ⟨hv, hw⟩ := hcut
    subst hw
    subst hv
    by_cases hgo : bad = false ∧ 0 < rem
    · obtain rfl : goB = true := by rw [HGO.out]; exact decide_eq_true hgo
      obtain ⟨hb, hrem⟩ := hgo
      subst hb
      obtain ⟨k, rfl⟩ : ∃ k, rem = k + 1 := ⟨rem - 1, by omega⟩
      have HDN : Hid (Due r false ((Im.rn (p.drop i)).bind fun p1 => (Im.rn p1.2).bind fun p2 => (Im.rep Im.rbox k p2.2).bind fun q => Im.end1 (xs ++ [⟨p1.1, p2.1⟩] ++ q.1, q.2))) := by
        have := due_next HD.out
        rw [Im.rbox_bind] at this
        exact this
      have g1 : (0 : Int) < (k : Int) + 1 := by omega
      go_wp2_with fail
      refine (int_k (N + 1) b p i false _ (hide HF.out.wk) (fun n1 l => (Im.rn l).bind fun p2 => (Im.rep Im.rbox k p2.2).bind fun q => Im.end1 (xs ++ [⟨n1, p2.1⟩] ++ q.1, q.2)) r HDN).mono ?_
      clear c0 c1 c2 f1 f2
      rintro e w1 ⟨n1, i1, bad1, rfl, hW1, hK1, hD1⟩
      have HF1 := hide (HF.out.walk (by omega) hTa hK1 hW1)
      have HD1 := hide hD1
      have hsr := HF1.out.kr.size
      obtain ⟨cD0, fD0⟩ := HF1.out.cell (by simp) (by omega) (Kr.refl (N + 1) w1)
      clear hW1 hK1 hD1 HD HDN
      go_wp2
      refine wp_region_any (by kernel_rfl) ?_
      change wpAny _ _ _ _ _ _ _ (World.drew _)
      refine wpAny_take (i := 0) (v := .pointer (some ⟨N + 1 + 1, 0, none⟩)) rfl (by kernel_rfl) (by kernel_rfl) (by kernel_rfl) (fun _ _ _ h => h) (Or.inl ⟨by rfl, ?_⟩) ?_
      · intro w; go_simp
      simp only [Act.put]
      refine wpAny_take (i := 2) (v := .int .i64 n1) rfl (by kernel_rfl) (by kernel_rfl) (by kernel_rfl) (fun _ _ _ h => h) (Or.inl ⟨by rfl, ?_⟩) ?_
      · intro w; go_simp
      simp only [Act.put]
      refine wpAny_take (i := 3) (v := .pointer (some ⟨N + 1, 0, none⟩)) rfl (by kernel_rfl) (by kernel_rfl) (by kernel_rfl) (fun _ _ _ h => h) (Or.inl ⟨by rfl, ?_⟩) ?_
      · intro w; go_simp
      simp only [Act.put]
      refine wpAny_ready (rs := [1, 4]) (by kernel_rfl) (by simp) ?_
      refine AllReady.cons rfl (fun K hK => ?_) ?_
      · go_simp
        refine hK _ _ ?_
        clear hK K
        refine wpAny_ready (rs := [4]) (by kernel_rfl) (by simp) ?_
        refine AllReady.cons rfl (fun K hK => ?_) ?_
        · go_simp
          refine (int_k (N + 1) b p i1 bad1 _ (hide HF1.out.wk.drew) (fun n l => (Im.rep Im.rbox k l).bind fun q => Im.end1 (xs ++ [⟨n1, n⟩] ++ q.1, q.2)) r HD1).mono ?_
          rintro e w2 ⟨n2, i2, bad2, rfl, hW2, hK2, hD2⟩
          have HK2 : Hid (Kr (N + 1) w1 w2) := hK2.undrew
          have HW2 := hide hW2
          have HD2 := hide hD2
          obtain ⟨cD, fD⟩ := HF1.out.cell (by simp) (by omega) HK2.out
          have hsw := HK2.out.size
          have hDl : N + 1 + 1 < w2.heap.size := Nat.lt_of_lt_of_le (lt_of_block HF1.out.blk) hsw
          clear hW2 hK2 hD2
          refine hK _ _ ?_
          clear hK K
          refine wpAny_take (i := 5) (v := .agg #[.int .i64 n1, .int .i64 n2]) rfl (by kernel_rfl) (by kernel_rfl) (by kernel_rfl) (fun _ _ _ h => h) (Or.inl ⟨by rfl, ?_⟩) ?_
          · intro w; go_simp
          simp only [Act.put]
          refine wpAny_ready (rs := [6]) (by kernel_rfl) (by simp) ?_
          refine AllReady.cons rfl (fun K hK => ?_) ?_
          · go_simp
            refine hK _ _ ?_
            clear hK K
            refine wpAny_ready (rs := [7]) (by kernel_rfl) (by simp) ?_
            refine AllReady.cons rfl (fun K hK => ?_) ?_
            · skip
              refine step_append_own rfl (.tmp 70) (.tmp 75) 22 rfl w3.heap.size 48 i0 (.agg #[.int .i64 0, .int .i64 0]) 2 16 Try.underlying22 hi hz0 hz1 hz2 rfl (by decide) v xs.length (xs.flatMap boxc) rfl ((HF1.out.row hTa HK2.out).alloc _) ⟨w2.heap.size, 0, none⟩ 1 1 (boxc ⟨n1, n2⟩) rfl rfl (news_at w2 (boxc ⟨n1, n2⟩) _) (all_one rfl) (by unfold maxLen; omega) (by omega) (by simp; omega) ?_
              intro v' w4 hown4 hg4
              obtain ⟨hf4, cD4, fD4⟩ := HF1.out.step (by omega) (by omega) hTa hba (by decide) HK2.out HW2.out hown4 hg4
              have cD5 := cD4.trans cD
              rw [← flat_snoc] at hf4
              obtain ⟨a', c', hv'⟩ := own_form hown4
              subst hv'
              have HF4 := hide hf4
              clear hown4 hg4 hf4 cD4
              refine hK _ _ ?_
              clear hK K
              simp only [Act.put]
              refine wpAny_take (i := 8) (v := .pointer (some ⟨N + 1 + 1, 0, none⟩)) rfl (by kernel_rfl) (by kernel_rfl) (by kernel_rfl) (fun _ _ _ h => h) (Or.inl ⟨by rfl, ?_⟩) ?_
              · intro w; go_simp
              simp only [Act.put]
              refine wpAny_ready (rs := [9]) (by kernel_rfl) (by simp) ?_
              refine AllReady.cons rfl (fun K hK => ?_) ?_
              · go_simp
                refine hK _ _ ?_
                clear hK K
                refine wpAny_done (by kernel_rfl) ?_ _
                go_wp2
                go_roundw
                case rel => exact ⟨k, xs ++ [⟨n1, n2⟩], i2, bad2, _, by go_num, by simp; omega, HD2.out, by rw [List.length_append]; exact HF4.out⟩
                case measure => simp [intOf]
              exact AllReady.nil
            exact AllReady.nil
          exact AllReady.nil
        exact AllReady.nil
      refine AllReady.cons rfl (fun K hK => ?_) ?_
      · go_simp
        refine (int_k (N + 1) b p i1 bad1 _ (hide HF1.out.wk.drew) (fun n l => (Im.rep Im.rbox k l).bind fun q => Im.end1 (xs ++ [⟨n1, n⟩] ++ q.1, q.2)) r HD1).mono ?_
        rintro e w2 ⟨n2, i2, bad2, rfl, hW2, hK2, hD2⟩
        have HK2 : Hid (Kr (N + 1) w1 w2) := hK2.undrew
        have HW2 := hide hW2
        have HD2 := hide hD2
        obtain ⟨cD, fD⟩ := HF1.out.cell (by simp) (by omega) HK2.out
        have hsw := HK2.out.size
        have hDl : N + 1 + 1 < w2.heap.size := Nat.lt_of_lt_of_le (lt_of_block HF1.out.blk) hsw
        clear hW2 hK2 hD2
        refine hK _ _ ?_
        clear hK K
        refine wpAny_take (i := 5) (v := .agg #[.int .i64 n1, .int .i64 n2]) rfl (by kernel_rfl) (by kernel_rfl) (by kernel_rfl) (fun _ _ _ h => h) (Or.inl ⟨by rfl, ?_⟩) ?_
        · intro w; go_simp
        simp only [Act.put]
        refine wpAny_ready (rs := [1, 6]) (by kernel_rfl) (by simp) ?_
        refine AllReady.cons rfl (fun K hK => ?_) ?_
        · go_simp
          refine hK _ _ ?_
          clear hK K
          refine wpAny_ready (rs := [6]) (by kernel_rfl) (by simp) ?_
          refine AllReady.cons rfl (fun K hK => ?_) ?_
          · go_simp
            refine hK _ _ ?_
            clear hK K
            refine wpAny_ready (rs := [7]) (by kernel_rfl) (by simp) ?_
            refine AllReady.cons rfl (fun K hK => ?_) ?_
            · skip
              refine step_append_own rfl (.tmp 70) (.tmp 75) 22 rfl w3.heap.size 48 i0 (.agg #[.int .i64 0, .int .i64 0]) 2 16 Try.underlying22 hi hz0 hz1 hz2 rfl (by decide) v xs.length (xs.flatMap boxc) rfl ((HF1.out.row hTa HK2.out).alloc _) ⟨w2.heap.size, 0, none⟩ 1 1 (boxc ⟨n1, n2⟩) rfl rfl (news_at w2 (boxc ⟨n1, n2⟩) _) (all_one rfl) (by unfold maxLen; omega) (by omega) (by simp; omega) ?_
              intro v' w4 hown4 hg4
              obtain ⟨hf4, cD4, fD4⟩ := HF1.out.step (by omega) (by omega) hTa hba (by decide) HK2.out HW2.out hown4 hg4
              have cD5 := cD4.trans cD
              rw [← flat_snoc] at hf4
              obtain ⟨a', c', hv'⟩ := own_form hown4
              subst hv'
              have HF4 := hide hf4
              clear hown4 hg4 hf4 cD4
              refine hK _ _ ?_
              clear hK K
              simp only [Act.put]
              refine wpAny_take (i := 8) (v := .pointer (some ⟨N + 1 + 1, 0, none⟩)) rfl (by kernel_rfl) (by kernel_rfl) (by kernel_rfl) (fun _ _ _ h => h) (Or.inl ⟨by rfl, ?_⟩) ?_
              · intro w; go_simp
              simp only [Act.put]
              refine wpAny_ready (rs := [9]) (by kernel_rfl) (by simp) ?_
              refine AllReady.cons rfl (fun K hK => ?_) ?_
              · go_simp
                refine hK _ _ ?_
                clear hK K
                refine wpAny_done (by kernel_rfl) ?_ _
                go_wp2
                go_roundw
                case rel => exact ⟨k, xs ++ [⟨n1, n2⟩], i2, bad2, _, by go_num, by simp; omega, HD2.out, by rw [List.length_append]; exact HF4.out⟩
                case measure => simp [intOf]
              exact AllReady.nil
            exact AllReady.nil
          exact AllReady.nil
        refine AllReady.cons rfl (fun K hK => ?_) ?_
        · go_simp
          refine hK _ _ ?_
          clear hK K
          refine wpAny_ready (rs := [1]) (by kernel_rfl) (by simp) ?_
          refine AllReady.cons rfl (fun K hK => ?_) ?_
          · go_simp
            refine hK _ _ ?_
            clear hK K
            refine wpAny_ready (rs := [7]) (by kernel_rfl) (by simp) ?_
            refine AllReady.cons rfl (fun K hK => ?_) ?_
            · skip
              refine step_append_own rfl (.tmp 70) (.tmp 75) 22 rfl w3.heap.size 48 i0 (.agg #[.int .i64 0, .int .i64 0]) 2 16 Try.underlying22 hi hz0 hz1 hz2 rfl (by decide) v xs.length (xs.flatMap boxc) rfl ((HF1.out.row hTa HK2.out).alloc _) ⟨w2.heap.size, 0, none⟩ 1 1 (boxc ⟨n1, n2⟩) rfl rfl (news_at w2 (boxc ⟨n1, n2⟩) _) (all_one rfl) (by unfold maxLen; omega) (by omega) (by simp; omega) ?_
              intro v' w4 hown4 hg4
              obtain ⟨hf4, cD4, fD4⟩ := HF1.out.step (by omega) (by omega) hTa hba (by decide) HK2.out HW2.out hown4 hg4
              have cD5 := cD4.trans cD
              rw [← flat_snoc] at hf4
              obtain ⟨a', c', hv'⟩ := own_form hown4
              subst hv'
              have HF4 := hide hf4
              clear hown4 hg4 hf4 cD4
              refine hK _ _ ?_
              clear hK K
              simp only [Act.put]
              refine wpAny_take (i := 8) (v := .pointer (some ⟨N + 1 + 1, 0, none⟩)) rfl (by kernel_rfl) (by kernel_rfl) (by kernel_rfl) (fun _ _ _ h => h) (Or.inl ⟨by rfl, ?_⟩) ?_
              · intro w; go_simp
              simp only [Act.put]
              refine wpAny_ready (rs := [9]) (by kernel_rfl) (by simp) ?_
              refine AllReady.cons rfl (fun K hK => ?_) ?_
              · go_simp
                refine hK _ _ ?_
                clear hK K
                refine wpAny_done (by kernel_rfl) ?_ _
                go_wp2
                go_roundw
                case rel => exact ⟨k, xs ++ [⟨n1, n2⟩], i2, bad2, _, by go_num, by simp; omega, HD2.out, by rw [List.length_append]; exact HF4.out⟩
                case measure => simp [intOf]
              exact AllReady.nil
            exact AllReady.nil
          exact AllReady.nil
        exact AllReady.nil
      exact AllReady.nil
    · have hex : bad = true ∨ rem = 0 := by cases bad <;> simp at hgo ⊢; omega
      obtain rfl : goB = false := by rw [HGO.out]; exact decide_eq_false hgo
      have HDE : Hid (Due r bad (Im.end1 (xs, p.drop i))) := due_end HD.out hex
      have hownB := HF.out.own
      obtain ⟨ab, cb, hv⟩ := own_form hownB
      subst hv
      have HOWB := hide hownB
      have HMc : Hid (wc.heap[N + 1 + 1]? = some (.cells [Value.slice ab xs.length cb, .slice none 0 0].toArray 25 (0, 0))) := HF.out.blk
      have HDE2 : Hid (Due r bad ((Im.rcount (p.drop i)).bind fun k => (Im.rep Im.runit k.1.toNat k.2).bind (Im.end2 xs))) := HDE.out
      have HWKc := hide HF.out.wk
      have HKc := hide HF.out.kr
      have HNc : Hid (wc.heap[N]? = some Zm) := (HF.out.kr.blk N (by omega) (by omega) (by omega)).trans HN3.out
      clear hownB HF HD HDE hex hgo HGO c0 c1 c2 f1 f2
      go_wp2_with fail
      refine (count_k (N + 1) b p i bad _ HWKc Im.runit (hide (fun _ _ _ => Im.runit_lt)) (Im.end2 xs) r HDE2).mono ?_
      rintro e w6 ⟨n2, i2, bad2, rfl, hn26, hW6, hK6, hD6⟩
      have HM6 : Hid (w6.heap[N + 1 + 1]? = some (.cells [Value.slice ab xs.length cb, .slice none 0 0].toArray 25 (0, 0))) := (hK6.blk _ (lt_of_block HMc.out) (by omega)).trans HMc.out
      have HN6 : Hid (w6.heap[N]? = some Zm) := (hK6.blk _ (lt_of_block HNc.out) (by omega)).trans HNc.out
      have HOWB6 : Hid (w6.ownsRow w3.heap.size 48 2 (.slice ab xs.length cb) xs.length (xs.flatMap boxc)) := own_kr2 HOWB.out (hK6.two (D := N + 1 + 1)) hTa HMc.out (by decide)
      have HK36 : Hid (Kr2 (N + 1) (N + 1 + 1) w3 w6) := HKc.out.trans hK6.two
      have HFS := hide (FW.start (fo := 1) 52 6 hW6 HM6.out rfl)
      have HD6 := hide hD6
      have hs6 := HK36.out.size
      have hT6 : N + 1 < w6.heap.size := by omega
      have hb6 : b < w6.heap.size := by omega
      clear hW6 hK6 hD6 HMc HNc HWKc HKc HOWB HDE2
      obtain ⟨ys, hys⟩ : ∃ ys, ys = xs := ⟨_, rfl⟩
      rw [← hys] at HM6 HOWB6 HFS HD6
      clear hys
      go_wp2
      go_loopw [10] (fun nv wr => ∃ (rem : Nat) (us : List UR) (i : Nat) (bad : Bool) (v : Value), nv = .int .i64 rem ∧ us.length + rem ≤ 60000 ∧ Due r bad ((Im.rep Im.runit rem (p.drop i)).bind fun q => Im.end2 ys (us.map UR.u ++ q.1, q.2)) ∧ (∀ z ∈ us, UrIn w3.heap.size wr z) ∧ FW (N + 1) b (N + 1 + 1) [Value.slice ab ys.length cb, .slice none 0 0] 25 1 52 6 w6 us.length (us.flatMap urc) p i bad v wr) (fun nv _ => (intOf nv).toNat)
      case atStart => exact ⟨n2, [], i2, bad2, _, rfl, by simpa using hn26, HD6.out, fun z hz => by simp at hz, HFS.out⟩
      case round =>
        obtain ⟨rem, us, i, bad, v, rfl, hlen2, hD, hUS, hF⟩ := hrel
        have HD := hide hD
        have HF := hide hF
        have HUS := hide hUS
        obtain ⟨o, cc, c0, c1, c2, f1, f2, _⟩ := hF.wk.cells
        clear hD hF hUS HFS HD6
        obtain ⟨goB, hgo⟩ : ∃ g, g = decide (bad = false ∧ 0 < rem) := ⟨_, rfl⟩
        have HGO := hide hgo
        clear hgo
        go_upto_region 17 with fail
        go_cut [88] (fun v wx => v = .bool goB ∧ wx = wr)
        case first =>
          by_cases h0 : 0 < rem
          · have g1 : (0 : Int) < (rem : Int) := by omega
            have HG : Hid ((!bad) = goB) := by unfold Hid; rw [HGO.out]; cases bad <;> simp [h0]
            clear h0
            go_wp2_with fail
            go_meet
            exact ⟨by rw [← HG.out], rfl⟩
          · have g1 : ¬ (0 : Int) < (rem : Int) := by omega
            have HG : Hid (false = goB) := by unfold Hid; rw [HGO.out]; simp [h0]
            clear h0
            go_wp2_with fail
            go_meet
            exact ⟨by rw [← HG.out], rfl⟩
        case rest =>
        obtain ⟨hv, hw⟩ := hcut
        subst hw
        subst hv
        by_cases hgo : bad = false ∧ 0 < rem
        · obtain rfl : goB = true := by rw [HGO.out]; exact decide_eq_true hgo
          obtain ⟨hb, hrem⟩ := hgo
          subst hb
          obtain ⟨k, rfl⟩ : ∃ k, rem = k + 1 := ⟨rem - 1, by omega⟩
          obtain ⟨ii, hj, hy0, hy1, hy2⟩ := info_parts Try.info3
          obtain ⟨ij, hq, hq0, hq1, hq2⟩ := info_parts Try.info54
          obtain ⟨ik, hu, hu0, hu1, hu2⟩ := info_parts Try.info52
          have HDN : Hid (Due r false ((Im.rn (p.drop i)).bind fun q1 => Im.du2 ys (us.map UR.u) k q1.1 q1.2)) := by
            have := due_next HD.out
            rw [Im.runit_bind] at this
            exact this
          have hswc := HF.out.kr.size
          have HFU := HF
          obtain ⟨WU, hWU⟩ : ∃ WU, WU = wc := ⟨_, rfl⟩
          rw [← hWU] at HFU HUS
          obtain ⟨vU, hvU⟩ : ∃ vU, vU = v := ⟨_, rfl⟩
          rw [← hvU] at HFU
          clear hvU
          obtain ⟨DU, hDU⟩ : ∃ DU, DU = wc.heap.size := ⟨_, rfl⟩
          obtain ⟨wb, hwb⟩ : ∃ wb, wb = wc.alloc (.cells Zu.toArray 52) := ⟨_, rfl⟩
          have HUW : Hid (UW (N + 1) b DU Zu 52 p i false wb wb) := by
            rw [hwb, hDU]
            exact ⟨Kr2.refl _ _ _, HF.out.wk.alloc _, heap_alloc_new wc _⟩
          have HKU : Hid (Kr (N + 1) WU wb) := by rw [hwb, hWU]; exact (Kr.refl _ _).alloc _
          have hDUge : w6.heap.size ≤ DU := by omega
          have HDUW : Hid (DU = WU.heap.size) := by unfold Hid; rw [hDU, hWU]
          have hbs : DU < wb.heap.size := by rw [hwb, hDU]; simp
          clear c0 c1 c2 f1 f2 HD HF
          go_wp2_with fail
          rw [← hDU]
          rw [show wc.alloc (.cells #[.int .i64 0, .int .i64 0, .slice none 0 0, .int .i64 0, .int .i64 0, .slice none 0 0] 52) = wb from hwb.symm]
          clear hwb hDU hWU
          refine (int_k (N + 1) b p i false _ (hide HUW.out.wk) (Im.du2 ys (us.map UR.u) k) r HDN).mono ?_
          rintro e w1 ⟨x1, i1, bad1, rfl, hW1, hK1, hD1⟩
          obtain ⟨⟨u1, cu1⟩, fu1, hU1⟩ := HUW.out.put (by omega) (by omega) hK1 hW1 0 (by decide) (.int .i64 x1)
          have HU1 : Hid (UW (N + 1) b DU [Value.int .i64 x1, .int .i64 0, .slice none 0 0, .int .i64 0, .int .i64 0, .slice none 0 0] 52 p i1 bad1 wb (w1.setCell ⟨DU, 0, none⟩ (.int .i64 x1))) := hU1
          have HD1 : Hid (Due r bad1 ((Im.rn (p.drop i1)).bind fun q => Im.du3 ys (us.map UR.u) k x1 q.1 q.2)) := hD1
          clear hU1 hW1 hK1 hD1 HUW HDN
          go_wp2_with fail
          refine (int_k (N + 1) b p i1 bad1 _ (hide HU1.out.wk) (Im.du3 ys (us.map UR.u) k x1) r HD1).mono ?_
          clear cu1 fu1
          rintro e w2 ⟨x2, i2', bad2', rfl, hW2, hK2, hD2⟩
          obtain ⟨⟨u2, cu2⟩, fu2, hU2⟩ := HU1.out.put (by omega) (by omega) hK2 hW2 1 (by simp) (.int .i64 x2)
          have HU2 : Hid (UW (N + 1) b DU [Value.int .i64 x1, .int .i64 x2, .slice none 0 0, .int .i64 0, .int .i64 0, .slice none 0 0] 52 p i2' bad2' wb (w2.setCell ⟨DU, 1, none⟩ (.int .i64 x2))) := hU2
          have HD2 : Hid (Due r bad2' ((Im.rcount (p.drop i2')).bind fun n => (Im.rep Im.rn n.1.toNat n.2).bind (Im.du4 ys (us.map UR.u) k x1 x2))) := hD2
          clear hU2 hW2 hK2 hD2 HU1 HD1
          go_wp2_with fail
          refine (count_k (N + 1) b p i2' bad2' _ (hide HU2.out.wk) Im.rn (hide (fun _ _ _ => Im.rn_lt)) (Im.du4 ys (us.map UR.u) k x1 x2) r HD2).mono ?_
          clear cu2 fu2
          rintro e w5 ⟨n5, i5, bad5, rfl, hn56, hW5, hK5, hD5⟩
          have HU5 := hide (HU2.out.walk (by omega) hK5 hW5)
          have HD5 := hide hD5
          have HFS3 := hide (FW.start (fo := 2) 3 1 hW5 HU5.out.blk rfl)
          have hs5 := HU5.out.kr.size
          have hT5 : N + 1 < w5.heap.size := by omega
          have hb5 : b < w5.heap.size := by omega
          clear hW5 hK5 hD5 HU2 HD2
          go_wp2
          go_loopw [12] (fun nv wr => ∃ (rem : Nat) (xs : List Int) (i : Nat) (bad : Bool) (v : Value), nv = .int .i64 rem ∧ xs.length + rem ≤ 60000 ∧ Due r bad ((Im.rep Im.rn rem (p.drop i)).bind fun q => Im.du4 ys (us.map UR.u) k x1 x2 (xs ++ q.1, q.2)) ∧ FW (N + 1) b DU [Value.int .i64 x1, .int .i64 x2, .slice none 0 0, .int .i64 0, .int .i64 0, .slice none 0 0] 52 2 3 1 w5 xs.length (xs.flatMap intc) p i bad v wr) (fun nv _ => (intOf nv).toNat)
          case atStart => exact ⟨n5, [], i5, bad5, _, rfl, by simpa using hn56, HD5.out, HFS3.out⟩
          case round =>
            obtain ⟨rem, xs, i, bad, v, rfl, hlen3, hD, hF⟩ := hrel
            have HD := hide hD
            have HF := hide hF
            obtain ⟨o, cc, c0, c1, c2, f1, f2, _⟩ := hF.wk.cells
            clear hD hF HFS3 HD5
            obtain ⟨goB, hgo⟩ : ∃ g, g = decide (bad = false ∧ 0 < rem) := ⟨_, rfl⟩
            have HGO := hide hgo
            clear hgo
            go_upto_region 23 with fail
            go_cut [107] (fun v wx => v = .bool goB ∧ wx = wr)
            case first =>
              by_cases h0 : 0 < rem
              · have g1 : (0 : Int) < (rem : Int) := by omega
                have HG : Hid ((!bad) = goB) := by unfold Hid; rw [HGO.out]; cases bad <;> simp [h0]
                clear h0
                go_wp2_with fail
                go_meet
                exact ⟨by rw [← HG.out], rfl⟩
              · have g1 : ¬ (0 : Int) < (rem : Int) := by omega
                have HG : Hid (false = goB) := by unfold Hid; rw [HGO.out]; simp [h0]
                clear h0
                go_wp2_with fail
                go_meet
                exact ⟨by rw [← HG.out], rfl⟩
            case rest =>
            obtain ⟨hv, hw⟩ := hcut
            subst hw
            subst hv
            by_cases hgo : bad = false ∧ 0 < rem
            · obtain rfl : goB = true := by rw [HGO.out]; exact decide_eq_true hgo
              obtain ⟨hb, hrem⟩ := hgo
              subst hb
              obtain ⟨k3, rfl⟩ : ∃ k, rem = k + 1 := ⟨rem - 1, by omega⟩
              have HDN : Hid (Due r false ((Im.rn (p.drop i)).bind fun q1 => (Im.rep Im.rn k3 q1.2).bind fun q => Im.du4 ys (us.map UR.u) k x1 x2 (xs ++ [q1.1] ++ q.1, q.2))) := due_next HD.out
              obtain ⟨cD0, fD0⟩ := HF.out.cell (by simp) (by omega) (Kr.refl (N + 1) wc)
              have hsr := HF.out.kr.size
              clear c0 c1 c2 f1 f2 HD
              go_wp2
              refine wp_region_any (by kernel_rfl) ?_
              change wpAny _ _ _ _ _ _ _ (World.drew _)
              refine wpAny_take (i := 0) (v := .pointer (some ⟨DU, 2, none⟩)) rfl (by kernel_rfl) (by kernel_rfl) (by kernel_rfl) (fun _ _ _ h => h) (Or.inl ⟨by rfl, ?_⟩) ?_
              · intro w; go_simp
              simp only [Act.put]
              refine wpAny_take (i := 2) (v := .pointer (some ⟨N + 1, 0, none⟩)) rfl (by kernel_rfl) (by kernel_rfl) (by kernel_rfl) (fun _ _ _ h => h) (Or.inl ⟨by rfl, ?_⟩) ?_
              · intro w; go_simp
              simp only [Act.put]
              refine wpAny_ready (rs := [1, 3]) (by kernel_rfl) (by simp) ?_
              refine AllReady.cons rfl (fun K hK => ?_) ?_
              · go_simp
                refine hK _ _ ?_
                clear hK K
                refine wpAny_ready (rs := [3]) (by kernel_rfl) (by simp) ?_
                refine AllReady.cons rfl (fun K hK => ?_) ?_
                · go_simp
                  refine (int_k (N + 1) b p i false _ (hide HF.out.wk.drew) (fun x l => (Im.rep Im.rn k3 l).bind fun q => Im.du4 ys (us.map UR.u) k x1 x2 (xs ++ [x] ++ q.1, q.2)) r HDN).mono ?_
                  rintro e w2 ⟨n1, i2, bad2, rfl, hW2, hK2, hD2⟩
                  have HK2 : Hid (Kr (N + 1) wc w2) := hK2.undrew
                  have HW2 := hide hW2
                  have HD2 := hide hD2
                  obtain ⟨cD, fD⟩ := HF.out.cell (by simp) (by omega) HK2.out
                  have hsw := HK2.out.size
                  have hDl : DU < w2.heap.size := Nat.lt_of_lt_of_le (lt_of_block HF.out.blk) hsw
                  clear hW2 hK2 hD2
                  refine hK _ _ ?_
                  clear hK K
                  refine wpAny_ready (rs := [4]) (by kernel_rfl) (by simp) ?_
                  refine AllReady.cons rfl (fun K hK => ?_) ?_
                  · go_simp
                    refine hK _ _ ?_
                    clear hK K
                    refine wpAny_ready (rs := [5]) (by kernel_rfl) (by simp) ?_
                    refine AllReady.cons rfl (fun K hK => ?_) ?_
                    · skip
                      refine step_append_own rfl (.tmp 111) (.tmp 114) 49 rfl w5.heap.size 3 ii (.int .i64 0) 1 8 Try.underlying49 hj hy0 hy1 hy2 rfl (by decide) v xs.length (xs.flatMap intc) rfl ((HF.out.row hT5 HK2.out).alloc _) ⟨w2.heap.size, 0, none⟩ 1 1 (intc n1) rfl rfl (news_at w2 (intc n1) _) (all_one rfl) (by unfold maxLen; omega) (by omega) (by simp; omega) ?_
                      intro v' w4 hown4 hg4
                      obtain ⟨hf4, cD4, fD4⟩ := HF.out.step (by omega) (by omega) hT5 hb5 (by decide) HK2.out HW2.out hown4 hg4
                      have cD5 := cD4.trans cD
                      rw [← flat_snoc] at hf4
                      obtain ⟨a', c', hv'⟩ := own_form hown4
                      subst hv'
                      have HF4 := hide hf4
                      clear hown4 hg4 hf4 cD4
                      refine hK _ _ ?_
                      clear hK K
                      simp only [Act.put]
                      refine wpAny_take (i := 6) (v := .pointer (some ⟨DU, 2, none⟩)) rfl (by kernel_rfl) (by kernel_rfl) (by kernel_rfl) (fun _ _ _ h => h) (Or.inl ⟨by rfl, ?_⟩) ?_
                      · intro w; go_simp
                      simp only [Act.put]
                      refine wpAny_ready (rs := [7]) (by kernel_rfl) (by simp) ?_
                      refine AllReady.cons rfl (fun K hK => ?_) ?_
                      · go_simp
                        refine hK _ _ ?_
                        clear hK K
                        refine wpAny_done (by kernel_rfl) ?_ _
                        go_wp2
                        go_roundw
                        case rel => exact ⟨k3, xs ++ [n1], i2, bad2, _, by go_num, by simp; omega, HD2.out, by rw [List.length_append]; exact HF4.out⟩
                        case measure => simp [intOf]
                      exact AllReady.nil
                    exact AllReady.nil
                  exact AllReady.nil
                exact AllReady.nil
              refine AllReady.cons rfl (fun K hK => ?_) ?_
              · go_simp
                refine (int_k (N + 1) b p i false _ (hide HF.out.wk.drew) (fun x l => (Im.rep Im.rn k3 l).bind fun q => Im.du4 ys (us.map UR.u) k x1 x2 (xs ++ [x] ++ q.1, q.2)) r HDN).mono ?_
                rintro e w2 ⟨n1, i2, bad2, rfl, hW2, hK2, hD2⟩
                have HK2 : Hid (Kr (N + 1) wc w2) := hK2.undrew
                have HW2 := hide hW2
                have HD2 := hide hD2
                obtain ⟨cD, fD⟩ := HF.out.cell (by simp) (by omega) HK2.out
                have hsw := HK2.out.size
                have hDl : DU < w2.heap.size := Nat.lt_of_lt_of_le (lt_of_block HF.out.blk) hsw
                clear hW2 hK2 hD2
                refine hK _ _ ?_
                clear hK K
                refine wpAny_ready (rs := [1, 4]) (by kernel_rfl) (by simp) ?_
                refine AllReady.cons rfl (fun K hK => ?_) ?_
                · go_simp
                  refine hK _ _ ?_
                  clear hK K
                  refine wpAny_ready (rs := [4]) (by kernel_rfl) (by simp) ?_
                  refine AllReady.cons rfl (fun K hK => ?_) ?_
                  · go_simp
                    refine hK _ _ ?_
                    clear hK K
                    refine wpAny_ready (rs := [5]) (by kernel_rfl) (by simp) ?_
                    refine AllReady.cons rfl (fun K hK => ?_) ?_
                    · skip
                      refine step_append_own rfl (.tmp 111) (.tmp 114) 49 rfl w5.heap.size 3 ii (.int .i64 0) 1 8 Try.underlying49 hj hy0 hy1 hy2 rfl (by decide) v xs.length (xs.flatMap intc) rfl ((HF.out.row hT5 HK2.out).alloc _) ⟨w2.heap.size, 0, none⟩ 1 1 (intc n1) rfl rfl (news_at w2 (intc n1) _) (all_one rfl) (by unfold maxLen; omega) (by omega) (by simp; omega) ?_
                      intro v' w4 hown4 hg4
                      obtain ⟨hf4, cD4, fD4⟩ := HF.out.step (by omega) (by omega) hT5 hb5 (by decide) HK2.out HW2.out hown4 hg4
                      have cD5 := cD4.trans cD
                      rw [← flat_snoc] at hf4
                      obtain ⟨a', c', hv'⟩ := own_form hown4
                      subst hv'
                      have HF4 := hide hf4
                      clear hown4 hg4 hf4 cD4
                      refine hK _ _ ?_
                      clear hK K
                      simp only [Act.put]
                      refine wpAny_take (i := 6) (v := .pointer (some ⟨DU, 2, none⟩)) rfl (by kernel_rfl) (by kernel_rfl) (by kernel_rfl) (fun _ _ _ h => h) (Or.inl ⟨by rfl, ?_⟩) ?_
                      · intro w; go_simp
                      simp only [Act.put]
                      refine wpAny_ready (rs := [7]) (by kernel_rfl) (by simp) ?_
                      refine AllReady.cons rfl (fun K hK => ?_) ?_
                      · go_simp
                        refine hK _ _ ?_
                        clear hK K
                        refine wpAny_done (by kernel_rfl) ?_ _
                        go_wp2
                        go_roundw
                        case rel => exact ⟨k3, xs ++ [n1], i2, bad2, _, by go_num, by simp; omega, HD2.out, by rw [List.length_append]; exact HF4.out⟩
                        case measure => simp [intOf]
                      exact AllReady.nil
                    exact AllReady.nil
                  exact AllReady.nil
                refine AllReady.cons rfl (fun K hK => ?_) ?_
                · go_simp
                  refine hK _ _ ?_
                  clear hK K
                  refine wpAny_ready (rs := [1]) (by kernel_rfl) (by simp) ?_
                  refine AllReady.cons rfl (fun K hK => ?_) ?_
                  · go_simp
                    refine hK _ _ ?_
                    clear hK K
                    refine wpAny_ready (rs := [5]) (by kernel_rfl) (by simp) ?_
                    refine AllReady.cons rfl (fun K hK => ?_) ?_
                    · skip
                      refine step_append_own rfl (.tmp 111) (.tmp 114) 49 rfl w5.heap.size 3 ii (.int .i64 0) 1 8 Try.underlying49 hj hy0 hy1 hy2 rfl (by decide) v xs.length (xs.flatMap intc) rfl ((HF.out.row hT5 HK2.out).alloc _) ⟨w2.heap.size, 0, none⟩ 1 1 (intc n1) rfl rfl (news_at w2 (intc n1) _) (all_one rfl) (by unfold maxLen; omega) (by omega) (by simp; omega) ?_
                      intro v' w4 hown4 hg4
                      obtain ⟨hf4, cD4, fD4⟩ := HF.out.step (by omega) (by omega) hT5 hb5 (by decide) HK2.out HW2.out hown4 hg4
                      have cD5 := cD4.trans cD
                      rw [← flat_snoc] at hf4
                      obtain ⟨a', c', hv'⟩ := own_form hown4
                      subst hv'
                      have HF4 := hide hf4
                      clear hown4 hg4 hf4 cD4
                      refine hK _ _ ?_
                      clear hK K
                      simp only [Act.put]
                      refine wpAny_take (i := 6) (v := .pointer (some ⟨DU, 2, none⟩)) rfl (by kernel_rfl) (by kernel_rfl) (by kernel_rfl) (fun _ _ _ h => h) (Or.inl ⟨by rfl, ?_⟩) ?_
                      · intro w; go_simp
                      simp only [Act.put]
                      refine wpAny_ready (rs := [7]) (by kernel_rfl) (by simp) ?_
                      refine AllReady.cons rfl (fun K hK => ?_) ?_
                      · go_simp
                        refine hK _ _ ?_
                        clear hK K
                        refine wpAny_done (by kernel_rfl) ?_ _
                        go_wp2
                        go_roundw
                        case rel => exact ⟨k3, xs ++ [n1], i2, bad2, _, by go_num, by simp; omega, HD2.out, by rw [List.length_append]; exact HF4.out⟩
                        case measure => simp [intOf]
                      exact AllReady.nil
                    exact AllReady.nil
                  exact AllReady.nil
                exact AllReady.nil
              exact AllReady.nil
            · have hex : bad = true ∨ rem = 0 := by cases bad <;> simp at hgo ⊢; omega
              obtain rfl : goB = false := by rw [HGO.out]; exact decide_eq_false hgo
              have HDE : Hid (Due r bad ((Im.rn (p.drop i)).bind fun s => Im.du5 ys (us.map UR.u) k x1 x2 xs s.1 s.2)) := due_end HD.out hex
              have hownL := HF.out.own
              obtain ⟨al, cl, hv⟩ := own_form hownL
              subst hv
              have HOWL := hide hownL
              have HUA : Hid (UW (N + 1) b DU [Value.int .i64 x1, .int .i64 x2, .slice al xs.length cl, .int .i64 0, .int .i64 0, .slice none 0 0] 52 p i bad wc wc) := ⟨Kr2.refl _ _ _, HF.out.wk, HF.out.blk⟩
              have HKA : Hid (Kr2 (N + 1) DU wb wc) := HU5.out.kr.trans HF.out.kr
              have hsA := HKA.out.size
              obtain ⟨WA, hWA⟩ : ∃ WA, WA = wc := ⟨_, rfl⟩
              rw [← hWA] at HUA HKA HOWL hsA
              clear hownL HF HD hex hgo HGO c0 c1 c2 f1 f2 HU5
              go_wp2_with fail
              rw [← hWA]
              clear hWA
              refine (int_k (N + 1) b p i bad _ (hide HUA.out.wk) (Im.du5 ys (us.map UR.u) k x1 x2 xs) r HDE).mono ?_
              rintro e w7 ⟨x3, i7, bad7, rfl, hW7, hK7, hD7⟩
              obtain ⟨⟨u7, cu7⟩, fu7, hU7⟩ := HUA.out.put (by omega) (by omega) hK7 hW7 3 (by simp) (.int .i64 x3)
              have HU7 : Hid (UW (N + 1) b DU [Value.int .i64 x1, .int .i64 x2, .slice al xs.length cl, .int .i64 x3, .int .i64 0, .slice none 0 0] 52 p i7 bad7 WA (w7.setCell ⟨DU, 3, none⟩ (.int .i64 x3))) := hU7
              have HD7 : Hid (Due r bad7 ((Im.rn (p.drop i7)).bind fun t => Im.du6 ys (us.map UR.u) k x1 x2 xs x3 t.1 t.2)) := hD7
              clear hU7 hW7 hK7 hD7 HDE
              go_wp2_with fail
              refine (int_k (N + 1) b p i7 bad7 _ (hide HU7.out.wk) (Im.du6 ys (us.map UR.u) k x1 x2 xs x3) r HD7).mono ?_
              clear cu7 fu7
              rintro e w8 ⟨x4, i8, bad8, rfl, hW8, hK8, hD8⟩
              obtain ⟨⟨u8, cu8⟩, fu8, hU8⟩ := HU7.out.put (by omega) (by omega) hK8 hW8 4 (by simp) (.int .i64 x4)
              have HU8 : Hid (UW (N + 1) b DU [Value.int .i64 x1, .int .i64 x2, .slice al xs.length cl, .int .i64 x3, .int .i64 x4, .slice none 0 0] 52 p i8 bad8 WA (w8.setCell ⟨DU, 4, none⟩ (.int .i64 x4))) := hU8
              have HD8 : Hid (Due r bad8 ((Im.rcount (p.drop i8)).bind fun kk => (Im.rep Im.rins kk.1.toNat kk.2).bind (Im.du7 ys (us.map UR.u) k x1 x2 xs x3 x4))) := hD8
              clear hU8 hW8 hK8 hD8 HU7 HD7
              go_wp2_with fail
              refine (count_k (N + 1) b p i8 bad8 _ (hide HU8.out.wk) Im.rins (hide (fun _ _ _ => Im.rins_lt)) (Im.du7 ys (us.map UR.u) k x1 x2 xs x3 x4) r HD8).mono ?_
              clear cu8 fu8
              rintro e w9 ⟨n9, i9, bad9, rfl, hn96, hW9, hK9, hD9⟩
              have HU9 := hide (HU8.out.walk (by omega) hK9 hW9)
              have HD9 := hide hD9
              have HFS4 := hide (FW.start (fo := 5) 54 3 hW9 HU9.out.blk rfl)
              have hs9 := HU9.out.kr.size
              have hT9 : N + 1 < w9.heap.size := by omega
              have hb9 : b < w9.heap.size := by omega
              have HOWL9 : Hid (w9.ownsRow w5.heap.size 3 1 (.slice al xs.length cl) xs.length (xs.flatMap intc)) := own_kr2 HOWL.out HU9.out.kr hT5 HUA.out.blk (by decide)
              clear hW9 hK9 hD9 HU8 HD8 HOWL
              obtain ⟨zs, hzs⟩ : ∃ zs, zs = xs := ⟨_, rfl⟩
              rw [← hzs] at HOWL9 HU9 HD9 HFS4
              clear hzs HUA
              go_wp2
              go_loopw [13] (fun nv wr => ∃ (rem : Nat) (xs : List Im.Ins) (i : Nat) (bad : Bool) (v : Value), nv = .int .i64 rem ∧ xs.length + rem ≤ 60000 ∧ Due r bad ((Im.rep Im.rins rem (p.drop i)).bind fun q => Im.du7 ys (us.map UR.u) k x1 x2 zs x3 x4 (xs ++ q.1, q.2)) ∧ FW (N + 1) b DU [Value.int .i64 x1, .int .i64 x2, .slice al zs.length cl, .int .i64 x3, .int .i64 x4, .slice none 0 0] 52 5 54 3 w9 xs.length (xs.flatMap insc) p i bad v wr) (fun nv _ => (intOf nv).toNat)
              case atStart => exact ⟨n9, [], i9, bad9, _, rfl, by simpa using hn96, HD9.out, HFS4.out⟩
              case round =>
                obtain ⟨rem, xs, i, bad, v, rfl, hlen4, hD, hF⟩ := hrel
                have HD := hide hD
                have HF := hide hF
                obtain ⟨o, cc, c0, c1, c2, f1, f2, _⟩ := hF.wk.cells
                clear hD hF HFS4 HD9
                obtain ⟨goB, hgo⟩ : ∃ g, g = decide (bad = false ∧ 0 < rem) := ⟨_, rfl⟩
                have HGO := hide hgo
                clear hgo
                go_upto_region 29 with fail
                go_cut [133] (fun v wx => v = .bool goB ∧ wx = wr)
                case first =>
                  by_cases h0 : 0 < rem
                  · have g1 : (0 : Int) < (rem : Int) := by omega
                    have HG : Hid ((!bad) = goB) := by unfold Hid; rw [HGO.out]; cases bad <;> simp [h0]
                    clear h0
                    go_wp2_with fail
                    go_meet
                    exact ⟨by rw [← HG.out], rfl⟩
                  · have g1 : ¬ (0 : Int) < (rem : Int) := by omega
                    have HG : Hid (false = goB) := by unfold Hid; rw [HGO.out]; simp [h0]
                    clear h0
                    go_wp2_with fail
                    go_meet
                    exact ⟨by rw [← HG.out], rfl⟩
                case rest =>
                obtain ⟨hv, hw⟩ := hcut
                subst hw
                subst hv
                by_cases hgo : bad = false ∧ 0 < rem
                · obtain rfl : goB = true := by rw [HGO.out]; exact decide_eq_true hgo
                  obtain ⟨hb, hrem⟩ := hgo
                  subst hb
                  obtain ⟨k4, rfl⟩ : ∃ k, rem = k + 1 := ⟨rem - 1, by omega⟩
                  have HDN : Hid (Due r false ((Im.rn (p.drop i)).bind fun q1 => (Im.rn q1.2).bind fun q2 => (Im.rn q2.2).bind fun q3 => (Im.rep Im.rins k4 q3.2).bind fun q => Im.du7 ys (us.map UR.u) k x1 x2 zs x3 x4 (xs ++ [⟨q1.1, q2.1, q3.1⟩] ++ q.1, q.2))) := by
                    have := due_next HD.out
                    rw [Im.rins_bind] at this
                    exact this
                  have hsr := HF.out.kr.size
                  obtain ⟨DI, hDI⟩ : ∃ DI, DI = wc.heap.size := ⟨_, rfl⟩
                  obtain ⟨wi, hwi⟩ : ∃ wi, wi = wc.alloc (.cells [Value.int .i64 0, .int .i64 0, .int .i64 0].toArray 54) := ⟨_, rfl⟩
                  have HUI : Hid (UW (N + 1) b DI [Value.int .i64 0, .int .i64 0, .int .i64 0] 54 p i false wi wi) := by
                    rw [hwi, hDI]
                    exact ⟨Kr2.refl _ _ _, HF.out.wk.alloc _, heap_alloc_new wc _⟩
                  have HKI : Hid (Kr (N + 1) wc wi) := by rw [hwi]; exact (Kr.refl _ _).alloc _
                  have hDIge : w9.heap.size ≤ DI := by omega
                  have HDIe := hide hDI
                  have hltI : DU < DI := by have := lt_of_block HF.out.blk; omega
                  clear c0 c1 c2 f1 f2 HD
                  go_wp2_with fail
                  rw [← hDI]
                  rw [show wc.alloc (.cells #[.int .i64 0, .int .i64 0, .int .i64 0] 54) = wi from hwi.symm]
                  clear hwi hDI
                  have hcall := int_k (N + 1) b p i false wi (hide HUI.out.wk) (fun a l => (Im.rn l).bind fun q2 => (Im.rn q2.2).bind fun q3 => (Im.rep Im.rins k4 q3.2).bind fun q => Im.du7 ys (us.map UR.u) k x1 x2 zs x3 x4 (xs ++ [(⟨a, q2.1, q3.1⟩ : Im.Ins)] ++ q.1, q.2)) r HDN
                  refine hcall.mono ?_
                  clear hcall
                  rintro e wA ⟨a1, iA, badA, rfl, hWA, hKA, hDA⟩
                  obtain ⟨⟨uA, cuA⟩, fuA, hUA⟩ := HUI.out.put (by omega) (by omega) hKA hWA 0 (by decide) (.int .i64 a1)
                  have HUA : Hid (UW (N + 1) b DI [Value.int .i64 a1, .int .i64 0, .int .i64 0] 54 p iA badA wi (wA.setCell ⟨DI, 0, none⟩ (.int .i64 a1))) := hUA
                  have HDA := hide hDA
                  clear hUA hWA hKA hDA HUI HDN
                  go_wp2_with fail
                  have hcall := int_k (N + 1) b p iA badA (wA.setCell ⟨DI, 0, none⟩ (.int .i64 a1)) (hide HUA.out.wk) (fun a2 l => (Im.rn l).bind fun q3 => (Im.rep Im.rins k4 q3.2).bind fun q => Im.du7 ys (us.map UR.u) k x1 x2 zs x3 x4 (xs ++ [(⟨a1, a2, q3.1⟩ : Im.Ins)] ++ q.1, q.2)) r HDA
                  refine hcall.mono ?_
                  clear hcall
                  clear cuA fuA
                  rintro e wB ⟨a2, iB, badB, rfl, hWB, hKB, hDB⟩
                  obtain ⟨⟨uB, cuB⟩, fuB, hUB⟩ := HUA.out.put (by omega) (by omega) hKB hWB 1 (by simp) (.int .i64 a2)
                  have HUB : Hid (UW (N + 1) b DI [Value.int .i64 a1, .int .i64 a2, .int .i64 0] 54 p iB badB wi (wB.setCell ⟨DI, 1, none⟩ (.int .i64 a2))) := hUB
                  have HDB := hide hDB
                  clear hUB hWB hKB hDB HUA HDA
                  go_wp2_with fail
                  have hcall := num_k (N + 1) b p iB badB (wB.setCell ⟨DI, 1, none⟩ (.int .i64 a2)) (hide HUB.out.wk) (fun a3 l => (Im.rep Im.rins k4 l).bind fun q => Im.du7 ys (us.map UR.u) k x1 x2 zs x3 x4 (xs ++ [(⟨a1, a2, a3⟩ : Im.Ins)] ++ q.1, q.2)) r HDB
                  refine hcall.mono ?_
                  clear hcall
                  clear cuB fuB
                  rintro e wC ⟨a3, iC, badC, rfl, hWC, hKC, hDC⟩
                  obtain ⟨⟨uC, cuC⟩, fuC, hUC⟩ := HUB.out.put (by omega) (by omega) hKC hWC 2 (by simp) (.int .i64 a3)
                  have hUC' : UW (N + 1) b DI [Value.int .i64 a1, .int .i64 a2, .int .i64 a3] 54 p iC badC wi (wC.setCell ⟨DI, 2, none⟩ (.int .i64 a3)) := hUC
                  have HUC := hide hUC'
                  have HDC := hide hDC
                  have HKC : Hid (Kr (N + 1) wc (wC.setCell ⟨DI, 2, none⟩ (.int .i64 a3))) := hUC'.kr.one HKI.out (by rw [HDIe.out]; exact Nat.le_refl _)
                  have hkc := HKC.out
                  have hkC0 : Kr (N + 1) wc wC := ((HUB.out.walk (by omega) hKC hWC).kr).one HKI.out (by rw [HDIe.out]; exact Nat.le_refl _)
                  obtain ⟨cD, fD⟩ := HF.out.cell (by simp) (by omega) hkC0
                  have hbC := (HUB.out.walk (by omega) hKC hWC).blk
                  obtain ⟨t0, t1, t2, _, _, _⟩ := cells3_at (show wC.heap[DI]? = some (.cells #[Value.int .i64 a1, .int .i64 a2, .int .i64 0] 54 (0, 0)) from hbC)
                  have hszC : wc.heap.size ≤ wC.heap.size := hkC0.size
                  have hDIlt : DI < wC.heap.size := lt_of_block hbC
                  clear hUC hUC' hWC hKC hDC HUB HDB hkc hkC0 hbC
                  go_wp2_with (at_builtin; refine wpList_append_own _ rfl _ _ 50 rfl w9.heap.size 54 ij (.agg #[.int .i64 0, .int .i64 0, .int .i64 0]) 3 24 Try.underlying50 hq hq0 hq1 hq2 rfl (by decide) v xs.length (xs.flatMap insc) rfl ((HF.out.row hT9 HKC.out).alloc _) ⟨wC.heap.size, 0, none⟩ 1 1 (insc (⟨a1, a2, a3⟩ : Im.Ins)) rfl rfl (news_atq _ (insc (⟨a1, a2, a3⟩ : Im.Ins)) _ _ (size_set _ _ _)) (all_one rfl) (by unfold maxLen; omega) (by omega) (Nat.le_trans HF.out.kr.size (Nat.le_trans HKC.out.size (by simp))) ?_; intro v' w4 hown4 hg4 _; obtain ⟨hf4, cD4, fD4⟩ := HF.out.step (by omega) (by omega) hT9 hb9 (by decide) HKC.out HUC.out.wk hown4 hg4; have cD5 := cD4.trans (HF.out.cell (by simp) (by omega) HKC.out).1; rw [← flat_snoc] at hf4; obtain ⟨a', c', hv'⟩ := own_form hown4; subst hv'; have HF4 := hide hf4; clear hown4 hg4 hf4 cD4)
                  go_wp2
                  go_roundw
                  case rel => exact ⟨k4, xs ++ [(⟨a1, a2, a3⟩ : Im.Ins)], iC, badC, _, by go_num, by simp; omega, HDC.out, by rw [List.length_append]; exact HF4.out⟩
                  case measure => simp [intOf]
                · have hex : bad = true ∨ rem = 0 := by cases bad <;> simp at hgo ⊢; omega
                  obtain rfl : goB = false := by rw [HGO.out]; exact decide_eq_false hgo
                  obtain ⟨X, hX⟩ : ∃ X : Im.Un, X = ⟨x1, x2, zs, x3, x4, xs⟩ := ⟨_, rfl⟩
                  have HDE : Hid (Due r bad (Im.duU ys (us.map UR.u) k X (p.drop i))) := by
                    rw [hX]
                    exact due_end HD.out hex
                  have hownC := HF.out.own
                  obtain ⟨ac, cc', hv⟩ := own_form hownC
                  subst hv
                  have HKW : Hid (Kr (N + 1) WU wc) := ((HKA.out.trans HU9.out.kr).trans HF.out.kr).one HKU.out (by rw [HDUW.out]; exact Nat.le_refl _)
                  have hDUc : wc.heap[DU]? = some (.cells [Value.int .i64 x1, .int .i64 x2, .slice al zs.length cl, .int .i64 x3, .int .i64 x4, .slice ac xs.length cc'].toArray 52 (0, 0)) := HF.out.blk
                  obtain ⟨q0, q1, q2, q3, q4, q5, _, _, _, _, _, _⟩ := cells6_at hDUc
                  have HOWLc := own_kr2 HOWL9.out HF.out.kr hT5 HU9.out.blk (by decide)
                  have HURN : Hid (UrIn w3.heap.size wc ⟨X, al, cl, ac, cc'⟩) := by
                    rw [hX]
                    exact ⟨own_base HOWLc (by omega), own_base hownC (by omega)⟩
                  have HWKc := hide HF.out.wk
                  obtain ⟨cM, fM⟩ := HFU.out.cell (by simp) (by omega) HKW.out
                  have hMlt := lt_of_block HFU.out.blk
                  have hszw := HKW.out.size
                  have hsWU := HFU.out.kr.size
                  have HMB := hide ((HKW.out.blk _ hMlt (by omega)).trans HFU.out.blk)
                  have hXc : urc (⟨X, al, cl, ac, cc'⟩ : UR) = [Value.int .i64 x1, .int .i64 x2, .slice al zs.length cl, .int .i64 x3, .int .i64 x4, .slice ac xs.length cc'] := by rw [hX]
                  have HXC := hide hXc
                  clear hownC hDUc HOWLc HF HD hex hgo HGO c0 c1 c2 f1 f2 hX hXc
                  go_wp2_with (at_builtin; refine wpList_append_own _ rfl _ _ 23 rfl w6.heap.size 52 ik (.agg #[.int .i64 0, .int .i64 0, .slice none 0 0, .int .i64 0, .int .i64 0, .slice none 0 0]) 6 80 Try.underlying23 hu hu0 hu1 hu2 rfl (by decide) vU us.length (us.flatMap urc) rfl ((HFU.out.row hT6 HKW.out).alloc _) ⟨wc.heap.size, 0, none⟩ 1 1 [Value.int .i64 x1, .int .i64 x2, .slice al zs.length cl, .int .i64 x3, .int .i64 x4, .slice ac xs.length cc'] rfl rfl (news_at wc [Value.int .i64 x1, .int .i64 x2, .slice al zs.length cl, .int .i64 x3, .int .i64 x4, .slice ac xs.length cc'] _) (all_one rfl) (by unfold maxLen; omega) (by omega) (by simp; omega) ?_; intro v' w4 hown4 hg4 _; obtain ⟨hf4, cD4, fD4⟩ := HFU.out.step (by omega) (by omega) hT6 hb6 (by decide) HKW.out HWKc.out hown4 hg4; have cD5 := cD4.trans cM; rw [← HXC.out, ← flat_snoc] at hf4; have HUS4 : Hid (∀ y ∈ us ++ [(⟨X, al, cl, ac, cc'⟩ : UR)], UrIn w3.heap.size (w4.setCell ⟨N + 1 + 1, 1, none⟩ v') y) := (fun y hy => by rcases List.mem_append.1 hy with hy | hy <;> first | exact ur_gen ((HUS.out y hy).kr HKW.out hTa) HMB.out (HFU.out.row hT6 HKW.out) hg4 | (simp at hy; subst hy; exact ur_gen HURN.out HMB.out (HFU.out.row hT6 HKW.out) hg4)); obtain ⟨a', c', hv'⟩ := own_form hown4; subst hv'; have HF4 := hide hf4; clear hown4 hg4 hf4 cD4)
                  go_wp2
                  go_roundw
                  case rel => exact ⟨k, us ++ [(⟨X, al, cl, ac, cc'⟩ : UR)], i, bad, _, by go_num, by simp; omega, by rw [List.map_append]; exact HDE.out, HUS4.out, by rw [List.length_append]; exact HF4.out⟩
                  case measure => simp [intOf]
        · have hex : bad = true ∨ rem = 0 := by cases bad <;> simp at hgo ⊢; omega
          obtain rfl : goB = false := by rw [HGO.out]; exact decide_eq_false hgo
          have HDE : Hid (Due r bad (Im.end2 ys (us.map UR.u, p.drop i))) := due_end HD.out hex
          have hownU := HF.out.own
          obtain ⟨au, cu, hv⟩ := own_form hownU
          subst hv
          have HOWU := hide hownU
          have hMc : wc.heap[N + 1 + 1]? = some (.cells #[Value.slice ab ys.length cb, .slice au us.length cu] 25 (0, 0)) := HF.out.blk
          have HMc := hide hMc
          have hNc : wc.heap[N]? = some Zm := (HF.out.kr.blk N (by omega) (by omega) (by omega)).trans HN6.out
          have HNc := hide hNc
          have HOWBc : Hid (wc.ownsRow w3.heap.size 48 2 (.slice ab ys.length cb) ys.length (ys.flatMap boxc)) := own_kr2 HOWB6.out HF.out.kr hTa HM6.out (by decide)
          have HBc : Hid (Below w.heap.size w wc) := by
            refine HcW.out.trans ?_
            have hkk := (HK3.out.two (D := N + 1 + 1)).trans (HK36.out.trans HF.out.kr)
            exact ⟨hkk.os, hkk.tape, hkk.output, hkk.size, fun j hj => by rw [← HNW.out] at hj; exact hkk.blk j (by rw [HCS.out]; omega) (by omega) (by omega)⟩
          have hile := HF.out.wk.le
          obtain ⟨m0, m1, _, _⟩ := cells2_at hMc
          obtain ⟨z0, z1, y0, y1⟩ := cells2_at hNc
          clear hownU hex hgo HGO HD hMc hNc
          by_cases hok : bad = false ∧ i = p.length
          · obtain ⟨hb, hi'⟩ := hok
            subst hb
            have HR : Hid (r = some ⟨ys, us.map UR.u⟩) := by
              have := HDE.out
              unfold Due Im.end2 at this
              rw [hi', List.drop_length] at this
              exact this
            have HER : Hid (er = 0) := by unfold Hid; rw [her.out, HR.out]; rfl
            have e7 : ((i : Int) != (p.length : Int)) = false := by simp; omega
            clear hi' HDE
            go_wp2
            refine bodyPost_ret (v := .tuple #[mdV ⟨ys, us.map UR.u⟩ ab au cb cu, .int .i64 0]) (by simp [results, Try.results12, go_sem, z0, z1]) rfl ?_
            rw [HR.out, HER.out]
            refine ⟨ab, cb, au, cu, rfl, ⟨?_, us, rfl, ?_, fun x hx => ?_⟩, ?_⟩
            · exact own_keep (own_base HOWBc.out (by rw [← HNW.out]; omega)) (fun j hj => set2_far _ _ _ _ (by have := (HOWBc.out.lt j hj).1; omega))
            · show World.ownsRow _ _ _ _ (.slice au (us.map UR.u).length cu) (us.map UR.u).length (us.flatMap urc)
              rw [List.length_map]
              exact own_keep (own_base HOWU.out (by rw [← HNW.out]; omega)) (fun j hj => set2_far _ _ _ _ (by have := (HOWU.out.lt j hj).1; omega))
            · exact ((HUS.out x hx).keep (fun j cs t fr hB hb ht => set2_far _ _ _ _ (by omega))).base (by rw [← HNW.out]; omega)
            · exact (HBc.out.setCell (p := ⟨N, 0, none⟩) (by rw [← HNW.out]; exact Nat.le_refl _) _).setCell (p := ⟨N, 1, none⟩) (by rw [← HNW.out]; exact Nat.le_refl _) _
          · have HR : Hid (r = none) := by
              have := HDE.out
              unfold Due Im.end2 at this
              cases bad with
              | true => exact this
              | false =>
                have hne : ¬ (p.drop i = []) := by
                  intro h0
                  have := congrArg List.length h0
                  simp at this hok
                  omega
                simp only [Bool.false_eq_true, if_false] at this
                rw [if_neg hne] at this
                exact this
            have HER : Hid (er = 2) := by unfold Hid; rw [her.out, HR.out]; rfl
            cases bad with
            | true =>
              clear hok HDE
              go_wp2
              refine bodyPost_ret (v := .tuple #[noM, .int .i64 2]) (by simp [results, Try.results12, go_sem, z0, z1]) rfl ?_
              rw [HR.out, HER.out]
              exact ⟨none, 0, none, 0, rfl, MdT.empty _ _, (HBc.out.setCell (p := ⟨N, 0, none⟩) (by rw [← HNW.out]; exact Nat.le_refl _) _).setCell (p := ⟨N, 1, none⟩) (by rw [← HNW.out]; exact Nat.le_refl _) _⟩
            | false =>
              have e7 : ((i : Int) != (p.length : Int)) = true := by simp at hok ⊢; omega
              clear hok HDE
              go_wp2
              refine bodyPost_ret (v := .tuple #[noM, .int .i64 2]) (by simp [results, Try.results12, go_sem, z0, z1]) rfl ?_
              rw [HR.out, HER.out]
              exact ⟨none, 0, none, 0, rfl, MdT.empty _ _, (HBc.out.setCell (p := ⟨N, 0, none⟩) (by rw [← HNW.out]; exact Nat.le_refl _) _).setCell (p := ⟨N, 1, none⟩) (by rw [← HNW.out]; exact Nat.le_refl _) _⟩

end Go.Proofs.Ytnfkfgpnojdfoaa
