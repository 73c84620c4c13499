/- Lists, the boxes of a task that runs by itself: how they lie in memory; the walks of Full, Empty, Take. -/
import Derived.Test.YtlpgfgcfkiefnaaM23
namespace Go.Proofs.Ytlpgfgcfkiefnaa.Vw
open Go.RowKit Vf Vm

structure Lst where
  feed : List Int
  took : Nat
  sent : List Int
def lsX : Bxs (List Lst) where
  full := fun _ _ => false
  may := fun x n => ∀ q, x[n]? = some q → q.sent.length ≤ 1000000
  empty := fun x n => match x[n]? with | some q => decide (q.took = q.feed.length) | none => true
  put := fun x n v => match x[n]? with | some q => x.set n { q with sent := q.sent ++ [v] } | none => x
  head := fun x n => match x[n]? with | some q => (q.feed[q.took]?).getD 0 | none => 0
  take := fun x n => match x[n]? with | some q => x.set n { q with took := q.took + 1 } | none => x

abbrev lsO (af : Option Addr) (m cf took : Nat) (vS : Value) : Obj := .cells #[.slice af m cf, .int .i64 took, vS] 89 (0, 0)
/-- A list in memory. -/
structure LAt (L : Lab) (w : World) (S n : Nat) (q : Lst) (af : Option Addr) (cf : Nat) (vS : Value) : Prop where
  blk : w.heap[S]? = some (lsO af q.feed.length cf q.took vS)
  feed : ∀ (i : Nat) v, q.feed[i]? = some v → ∃ b off, af = some ⟨b, off, none⟩ ∧ b < w.heap.size ∧ (L b).cls = 0 ∧ w.cell? ⟨b, off + i, none⟩ = some (.int .i64 v)
  few : q.feed.length ≤ 9223372036854775806
  took : q.took ≤ q.feed.length
  sent : w.ownsRow 0 2 1 vS q.sent.length (ints q.sent)
  lS : L S = ⟨2, n, 0, 0⟩
  lV : ∀ b, vS.ownBlock = some b → L b = ⟨2, n, 0, 1⟩
theorem LAt.keep {L L' : Lab} {w w' : World} {S n : Nat} {q : Lst} {af : Option Addr} {cf : Nat} {vS : Value} (h : LAt L w S n q af cf vS) (hE : Ext L L' w) (hz : w.heap.size ≤ w'.heap.size) (hb : ∀ b, b < w.heap.size → (L b).cls = 0 ∨ (L b).cls = 2 ∧ (L b).idx = n → w'.heap[b]? = w.heap[b]?) : LAt L' w' S n q af cf vS := by
  refine ⟨(hb _ (lt_of_block h.blk) (.inr (by rw [h.lS]; exact ⟨rfl, rfl⟩))).trans h.blk, fun i v hv => ?_, h.few, h.took, own_keep h.sent (fun b hx => hb b (h.sent.lt b hx).2 (.inr (by rw [h.lV b hx]; exact ⟨rfl, rfl⟩))), (hE _ (lt_of_block h.blk)).trans h.lS, fun b hx => (hE _ (h.sent.lt b hx).2).trans (h.lV b hx)⟩
  obtain ⟨b, off, e, hs, h0, hc⟩ := h.feed i v hv
  exact ⟨b, off, e, by omega, by rw [hE b hs]; exact h0, (cell_eq (hb b hs (.inl h0)) _).trans hc⟩

/-- What is round a task that runs by itself: the row of its boxes, and each list. -/
structure LsEn (Q : Nat → Nat) (nb rb off : Nat) (L : Lab) (w : World) (x : List Lst) : Prop where
  len : x.length = nb
  row : ∀ n, n < nb → rb < w.heap.size ∧ (L rb).cls = 0 ∧ w.cell? ⟨rb, off + n, none⟩ = some (.iface 87 (.pointer (some ⟨Q n, 0, none⟩)))
  lists : ∀ (n : Nat) q, x[n]? = some q → ∃ af cf vS, LAt L w (Q n) n q af cf vS
def lsE (Q : Nat → Nat) (nb rb off : Nat) : Env (List Lst) where
  En := fun L w _ x => LsEn Q nb rb off L w x
  keep := fun {L L' w w' _ x} h hE hz hb => ⟨h.len, fun n hn => by
    obtain ⟨h1, h2, h3⟩ := h.row n hn
    exact ⟨by omega, by rw [hE rb h1]; exact h2, (cell_eq (hb rb h1 (by omega)) _).trans h3⟩, fun n q hq => by
    obtain ⟨af, cf, vS, hA⟩ := h.lists n q hq
    exact ⟨af, cf, vS, hA.keep hE hz (fun b hs hx => hb b hs (by omega))⟩⟩

theorem ls_cells {w : World} {S : Nat} {af : Option Addr} {m cf took : Nat} {vS : Value} (h : w.heap[S]? = some (lsO af m cf took vS)) : w.cell? ⟨S, 0, none⟩ = some (.slice af m cf) ∧ w.cell? ⟨S, 1, none⟩ = some (.int .i64 took) ∧ w.cell? ⟨S, 2, none⟩ = some vS ∧ ∀ j, w.frozen? ⟨S, j, none⟩ = false := by
  simp [World.cell?, World.frozen?, h]

set_option maxHeartbeats 400000 in
theorem full_ls (S : Nat) (w : World) :
    Calls Try.prog 118 #[.pointer (some ⟨S, 0, none⟩)] w fun e w' => e = .returned (.bool false) ∧ ∃ d, w' = w.drewN d := by
  go_enter Try.func118, Try.ntmps118
  go_wp2
  go_ret
  exact ⟨rfl, 0, rfl⟩

set_option maxHeartbeats 400000 in
theorem empty_ls (L : Lab) (S n : Nat) (q : Lst) (af : Option Addr) (cf : Nat) (vS : Value) (w : World) (h : Hid (LAt L w S n q af cf vS)) (b : Bool) (hb : Hid (b = decide (q.took = q.feed.length))) :
    Calls Try.prog 117 #[.pointer (some ⟨S, 0, none⟩)] w fun e w' => e = .returned (.bool b) ∧ ∃ d, w' = w.drewN d := by
  obtain ⟨c0, c1, c2, _⟩ := ls_cells h.out.blk
  have e1 : ((q.took : Int) == (q.feed.length : Int)) = b := by rw [hb.out, Bool.eq_iff_iff]; simp; omega
  go_enter Try.func117, Try.ntmps117
  go_wp2
  go_quiet (fail)
  go_wp2
  go_ret
  exact ⟨rfl, _, rfl⟩

theorem ls_set1 {w : World} {S : Nat} {af : Option Addr} {m cf took took' : Nat} {vS u : Value} (h : w.heap[S]? = some (lsO af m cf took vS)) (hu : u = .int .i64 took') : (w.setCell ⟨S, 1, none⟩ u).heap[S]? = some (lsO af m cf took' vS) := by
  subst hu
  simp only [World.setCell, Array.getElem?_modify, if_true, h, Option.map_some]
  rfl
theorem ls_set2 {w : World} {S : Nat} {af : Option Addr} {m cf took : Nat} {vS u : Value} (h : w.heap[S]? = some (lsO af m cf took vS)) : (w.setCell ⟨S, 2, none⟩ u).heap[S]? = some (lsO af m cf took u) := by
  simp only [World.setCell, Array.getElem?_modify, if_true, h, Option.map_some]
  rfl

set_option maxHeartbeats 400000 in
theorem take_ls (L : Lab) (S n : Nat) (q : Lst) (af : Option Addr) (cf : Nat) (vS : Value) (w : World) (h : Hid (LAt L w S n q af cf vS)) (x : Int) (hx : Hid (q.feed[q.took]? = some x)) :
    Calls Try.prog 120 #[.pointer (some ⟨S, 0, none⟩)] w fun e w' => e = .returned (.int .i64 x) ∧ LAt L w' S n { q with took := q.took + 1 } af cf vS ∧ Chg (fun b => b = S) w w' := by
  obtain ⟨c0, c1, c2, c3⟩ := ls_cells h.out.blk
  obtain ⟨b, off, rfl, hs, h0, hc⟩ := h.out.feed _ _ hx.out
  have hbS : ¬ b = S := fun e => by rw [e, h.out.lS] at h0; cases h0
  have hlt : q.took < q.feed.length := (List.getElem?_eq_some_iff.1 hx.out).1
  have hfew := h.out.few
  obtain ⟨tk, htk⟩ : ∃ k, k = q.took := ⟨_, rfl⟩
  obtain ⟨m, hm⟩ : ∃ k, k = q.feed.length := ⟨_, rfl⟩
  rw [← htk] at c1 hc hlt
  rw [← hm] at c0 hlt hfew
  have HTK := Sb.hide htk
  have HM := Sb.hide hm
  clear htk hm
  have n0 : (0 : Int) ≤ (tk : Int) := by omega
  have n1 : (tk : Int) < (m : Int) := by omega
  have n2 : ((tk : Int) + 1 - 1) = tk := by omega
  go_enter Try.func120, Try.ntmps120
  go_wp2
  go_quiet (fail)
  go_wp2
  go_ret
  have H := h.out
  refine ⟨rfl, ⟨ls_set1 (took := q.took) H.blk (by have := HTK.out; subst this; go_num), fun i v hv => ?_, H.few, ?_, ?_, H.lS, H.lV⟩, ((Chg.refl (fun b => b = S) w).set (p := ⟨S, 1, none⟩) (.inl rfl) _).drewN _⟩
  · obtain ⟨b2, off2, e, h1, h2, h3⟩ := H.feed i v hv
    have hb2 : b2 ≠ S := fun e => by rw [e, H.lS] at h2; cases h2
    exact ⟨b2, off2, e, by simpa [World.setCell] using h1, h2, (cell_eq (Below.heap_setCell _ _ _ _ hb2) _).trans h3⟩
  · have := HTK.out; have := HM.out; show q.took + 1 ≤ q.feed.length; omega
  · refine own_keep H.sent (fun b hb => Below.heap_setCell _ _ _ _ (fun e => ?_))
    have a := H.lV b hb
    rw [e, H.lS] at a
    cases a

set_option maxRecDepth 100000 in
set_option maxHeartbeats 1000000 in
theorem put_ls (L : Lab) (S n : Nat) (q : Lst) (af : Option Addr) (cf : Nat) (vS : Value) (w : World) (h : Hid (LAt L w S n q af cf vS)) (v : Int) (hl : q.sent.length ≤ 1000000) :
    Calls Try.prog 119 #[.pointer (some ⟨S, 0, none⟩), .int .i64 v] w fun e w' => e = .returned (.tuple #[]) ∧ ∃ R cap w4, w' = w4.setCell ⟨S, 2, none⟩ (.slice (some ⟨R, 0, none⟩) (q.sent.length + 1) cap) ∧ w4.ownsRow 0 2 1 (.slice (some ⟨R, 0, none⟩) (q.sent.length + 1) cap) (q.sent.length + 1) (ints q.sent ++ [.int .i64 v]) ∧ (w.alloc (.cells #[.int .i64 v] 2)).grownBy w4 vS.ownBlock ∧ (vS.ownBlock = some R ∨ R = w.heap.size + 1) := by
  obtain ⟨i0, hi, hz0, hz1, hz2⟩ := info_parts Sb.Try.info2
  obtain ⟨c0, c1, c2, c3⟩ := ls_cells h.out.blk
  have hSz := lt_of_block h.out.blk
  have HRW : Hid ((w.alloc (.cells #[.int .i64 v] 2)).ownsRow 0 2 1 vS q.sent.length (ints q.sent)) := h.out.sent.alloc _
  go_enter Try.func119, Try.ntmps119
  go_wp2_with (at_builtin; refine wpList_append_where rfl (.tmp 8) (.tmp 10) 38 rfl 0 2 i0 (.int .i64 0) 1 8 Try.underlying38 hi hz0 hz1 hz2 rfl (by decide) vS q.sent.length (ints q.sent) rfl HRW.out ⟨w.heap.size, 0, none⟩ 1 1 [.int .i64 v] rfl rfl (news1 w _ _) (ones1 rfl) (by decide) (by unfold maxLen; omega) (by omega) (Nat.zero_le _) ?_)
  intro R4 cap4 w4 hown4 hg4 hR4
  have hSb : w4.heap[S]? = some (lsO af q.feed.length cf q.took vS) := (hg4.block S (by simp; omega) (fun e => by
    have a := h.out.lV S e.symm
    rw [h.out.lS] at a
    cases a)).trans ((Below.heap_alloc _ _ _ hSz).trans h.out.blk)
  have fr4 : w4.frozen? ⟨S, 2, none⟩ = false := by simp [World.frozen?, hSb]
  have q4 : w4.cell? ⟨S, 2, none⟩ = some vS := by simp [World.cell?, hSb]
  have HO := Sb.hide hown4
  have HG := Sb.hide hg4
  have HRR := Sb.hide hR4
  clear hown4 hg4 hR4 hSb
  go_wp2
  go_end0
  exact ⟨rfl, R4, cap4, w4, rfl, HO.out, HG.out, HRR.out.imp id (fun e => by simpa using e)⟩
end Go.Proofs.Ytlpgfgcfkiefnaa.Vw

/- Lists as a task's boxes; nobody hears. -/
namespace Go.Proofs.Ytlpgfgcfkiefnaa.Vw
open Go.RowKit Vf Vm

theorem LsEn.put {B : Nat} {Q : Nat → Nat} {nb rb off : Nat} {L : Lab} {w w4 : World} {x : List Lst} {n : Nat} {q : Lst} {af : Option Addr} {cf : Nat} {vS : Value} {v : Int} {R cap : Nat} {ob : Obj}
    (H : LsEn Q nb rb off L w x) (hk : LOk B L w) (hq : x[n]? = some q) (hA : LAt L w (Q n) n q af cf vS)
    (hown : w4.ownsRow 0 2 1 (.slice (some ⟨R, 0, none⟩) (q.sent.length + 1) cap) (q.sent.length + 1) (ints q.sent ++ [.int .i64 v])) (hg : (w.alloc ob).grownBy w4 vS.ownBlock) (hR : vS.ownBlock = some R ∨ R = w.heap.size + 1) :
    ∃ L', LsEn Q nb rb off L' (w4.setCell ⟨Q n, 2, none⟩ (.slice (some ⟨R, 0, none⟩) (q.sent.length + 1) cap)) (x.set n { q with sent := q.sent ++ [v] }) ∧ ExE L L' w ∧ LOk B L' (w4.setCell ⟨Q n, 2, none⟩ (.slice (some ⟨R, 0, none⟩) (q.sent.length + 1) cap)) ∧ Chg (EB L) w (w4.setCell ⟨Q n, 2, none⟩ (.slice (some ⟨R, 0, none⟩) (q.sent.length + 1) cap)) := by
  have hz4 := hg.size
  simp at hz4
  have hSz := lt_of_block hA.blk
  have hR4 : R < w4.heap.size := (hown.lt R rfl).2
  have hnl : n < x.length := (List.getElem?_eq_some_iff.1 hq).1
  have hRS : R ≠ Q n := fun e => by
    rcases hR with hx | hx
    · have a := hA.lV R hx; rw [e, hA.lS] at a; cases a
    · omega
  have blk : ∀ b, b < w.heap.size → vS.ownBlock ≠ some b → b ≠ Q n → (w4.setCell ⟨Q n, 2, none⟩ (.slice (some ⟨R, 0, none⟩) (q.sent.length + 1) cap)).heap[b]? = w.heap[b]? := fun b hb hn hT => (Below.heap_setCell _ _ _ _ hT).trans ((hg.block b (by simp; omega) (fun e => hn e.symm)).trans (Below.heap_alloc _ _ _ hb))
  have lab : ∀ b, b < w.heap.size → (fun b => if b = R then (⟨2, n, 0, 1⟩ : Lb) else L b) b = L b := fun b hb => by
    by_cases e : b = R
    · rcases hR with hx | hx
      · simp only [e, if_true]
        rw [hA.lV R hx]
      · omega
    · simp only [e, if_false]
  have nV : ∀ {b : Nat}, ¬ ((L b).cls = 2 ∧ (L b).idx = n) → vS.ownBlock ≠ some b := fun hn hx => hn (by rw [hA.lV _ hx]; exact ⟨rfl, rfl⟩)
  have nS : ∀ {b : Nat}, ¬ ((L b).cls = 2 ∧ (L b).idx = n) → b ≠ Q n := fun hn hx => hn (by rw [hx, hA.lS]; exact ⟨rfl, rfl⟩)
  have hsz : w.heap.size ≤ (w4.setCell ⟨Q n, 2, none⟩ (.slice (some ⟨R, 0, none⟩) (q.sent.length + 1) cap)).heap.size := by simp [World.setCell]; omega
  refine ⟨fun b => if b = R then ⟨2, n, 0, 1⟩ else L b, ⟨by rw [List.length_set]; exact H.len, fun k hkn => ?_, fun k qk hqk => ?_⟩, ⟨lab, fun b => ?_⟩, ⟨fun b hb => ?_, fun b hb => ?_, by have := hk.size; omega⟩, ⟨hg.os, hg.tape, hg.output, hsz, fun b hb hn => blk b hb (nV (fun hx => hn (.inl hx.1))) (nS (fun hx => hn (.inl hx.1)))⟩⟩
  · obtain ⟨h1, h2, h3⟩ := H.row k hkn
    exact ⟨by omega, (congrArg Lb.cls (lab rb h1)).trans h2, (cell_eq (blk rb h1 (nV (by omega)) (nS (by omega))) _).trans h3⟩
  · by_cases e : k = n
    · subst e
      rw [List.getElem?_set_self hnl] at hqk
      cases hqk
      refine ⟨af, cf, .slice (some ⟨R, 0, none⟩) (q.sent.length + 1) cap, ⟨ls_set2 (vS := vS) ?_, fun i u hu => ?_, hA.few, hA.took, ?_, (lab _ hSz).trans hA.lS, fun b hb => by cases hb; simp⟩⟩
      · exact (hg.block _ (by simp; omega) (fun e => by have a := hA.lV _ e.symm; rw [hA.lS] at a; cases a)).trans ((Below.heap_alloc _ _ _ hSz).trans hA.blk)
      · obtain ⟨b2, off2, e2, h1, h2, h3⟩ := hA.feed i u hu
        exact ⟨b2, off2, e2, by omega, (congrArg Lb.cls (lab b2 h1)).trans h2, (cell_eq (blk b2 h1 (nV (by omega)) (nS (by omega))) _).trans h3⟩
      · have e : ints (q.sent ++ [v]) = ints q.sent ++ [.int .i64 v] := by simp [ints]
        show World.ownsRow _ _ _ _ _ (q.sent ++ [v]).length (ints (q.sent ++ [v]))
        rw [e, List.length_append]
        exact own_keep hown (fun k hk => by cases hk; exact Below.heap_setCell _ _ _ _ hRS)
    · rw [List.getElem?_set_ne (fun e2 => e e2.symm)] at hqk
      obtain ⟨af2, cf2, vS2, hA2⟩ := H.lists k qk hqk
      exact ⟨af2, cf2, vS2, hA2.keep lab hsz (fun b hs hx => blk b hs (nV (by omega)) (nS (by omega)))⟩
  · by_cases e : b = R
    · right; left; simp [e]
    · left; simp only [e, if_false]
  · have hb2 := hk.low b hb
    have hBs := hk.size
    exact (congrArg Lb.cls (lab b (by omega))).trans hb2
  · have hb' : w4.heap.size ≤ b := by simpa [World.setCell] using hb
    have e : b ≠ R := by omega
    simp only [e, if_false]
    exact hk.new b (by omega)

theorem LsEn.take {B : Nat} {Q : Nat → Nat} {nb rb off : Nat} {L : Lab} {w w' : World} {x : List Lst} {n : Nat} {q q' : Lst} {af : Option Addr} {cf : Nat} {vS : Value}
    (H : LsEn Q nb rb off L w x) (hk : LOk B L w) (hq : x[n]? = some q) (hA : LAt L w (Q n) n q af cf vS) (hA' : LAt L w' (Q n) n q' af cf vS) (hC : Chg (fun b => b = Q n) w w') :
    ∃ L', LsEn Q nb rb off L' w' (x.set n q') ∧ ExE L L' w ∧ LOk B L' w' ∧ Chg (EB L) w w' := by
  have hnl : n < x.length := (List.getElem?_eq_some_iff.1 hq).1
  have nS : ∀ {b : Nat}, ¬ ((L b).cls = 2 ∧ (L b).idx = n) → b ≠ Q n := fun hn hx => hn (by rw [hx, hA.lS]; exact ⟨rfl, rfl⟩)
  refine ⟨L, ⟨by rw [List.length_set]; exact H.len, fun k hkn => ?_, fun k qk hqk => ?_⟩, ⟨.refl _ _, fun b => .inl rfl⟩, hk.on hC.size, hC.mono (fun b _ hx => by subst hx; left; rw [hA.lS])⟩
  · obtain ⟨h1, h2, h3⟩ := H.row k hkn
    have := hC.size
    exact ⟨by omega, h2, (cell_eq (hC.block rb h1 (nS (by omega))) _).trans h3⟩
  · by_cases e : k = n
    · subst e
      rw [List.getElem?_set_self hnl] at hqk
      cases hqk
      exact ⟨af, cf, vS, hA'⟩
    · rw [List.getElem?_set_ne (fun e2 => e e2.symm)] at hqk
      obtain ⟨af2, cf2, vS2, hA2⟩ := H.lists k qk hqk
      exact ⟨af2, cf2, vS2, hA2.keep (.refl _ _) hC.size (fun b hs hx => hC.block b hs (nS (by omega)))⟩
end Go.Proofs.Ytlpgfgcfkiefnaa.Vw

