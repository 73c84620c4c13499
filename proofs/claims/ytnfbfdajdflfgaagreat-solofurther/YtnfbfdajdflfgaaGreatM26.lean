/- Lists as a task's boxes; nobody hears. -/
import Derived.Test.YtnfbfdajdflfgaaGreatM25
namespace Go.Proofs.YtnfbfdajdflfgaaGreat.Vw
open Go.RowKit Vf Vm

theorem LsEn.put {B : Nat} {Q : Nat → Nat} {nb rb off : Nat} {L : Lab} {w w4 : World} {x : List Lst} {n : Nat} {q : Lst} {af : Option Addr} {cf : Nat} {vS : Value} {v : Int} {R cap : Nat} {ob : Obj}
    (H : LsEn Q nb rb off L w x) (hk : LOk B L w) (hq : x[n]? = some q) (hA : LAt L w (Q n) n q af cf vS)
    (hown : w4.ownsRow 0 2 1 (.slice (some ⟨R, 0, none⟩) (q.sent.length + 1) cap) (q.sent.length + 1) (ints q.sent ++ [.int .i64 v])) (hg : (w.alloc ob).grownBy w4 vS.ownBlock) (hR : vS.ownBlock = some R ∨ R = w.heap.size + 1) :
    ∃ L', LsEn Q nb rb off L' (w4.setCell ⟨Q n, 2, none⟩ (.slice (some ⟨R, 0, none⟩) (q.sent.length + 1) cap)) (x.set n { q with sent := q.sent ++ [v] }) ∧ ExE L L' w ∧ LOk B L' (w4.setCell ⟨Q n, 2, none⟩ (.slice (some ⟨R, 0, none⟩) (q.sent.length + 1) cap)) ∧ Chg (EB L) w (w4.setCell ⟨Q n, 2, none⟩ (.slice (some ⟨R, 0, none⟩) (q.sent.length + 1) cap)) := by
  have hz4 := hg.size
  simp at hz4
  have hSz := lt_of_block hA.blk
  have hR4 : R < w4.heap.size := (hown.lt R rfl).2
  have hnl : n < x.length := (List.getElem?_eq_some_iff.1 hq).1
  have hRS : R ≠ Q n := fun e => by
    rcases hR with hx | hx
    · have a := hA.lV R hx; rw [e, hA.lS] at a; cases a
    · omega
  have blk : ∀ b, b < w.heap.size → vS.ownBlock ≠ some b → b ≠ Q n → (w4.setCell ⟨Q n, 2, none⟩ (.slice (some ⟨R, 0, none⟩) (q.sent.length + 1) cap)).heap[b]? = w.heap[b]? := fun b hb hn hT => (Below.heap_setCell _ _ _ _ hT).trans ((hg.block b (by simp; omega) (fun e => hn e.symm)).trans (Below.heap_alloc _ _ _ hb))
  have lab : ∀ b, b < w.heap.size → (fun b => if b = R then (⟨2, n, 0, 1⟩ : Lb) else L b) b = L b := fun b hb => by
    by_cases e : b = R
    · rcases hR with hx | hx
      · simp only [e, if_true]
        rw [hA.lV R hx]
      · omega
    · simp only [e, if_false]
  have nV : ∀ {b : Nat}, ¬ ((L b).cls = 2 ∧ (L b).idx = n) → vS.ownBlock ≠ some b := fun hn hx => hn (by rw [hA.lV _ hx]; exact ⟨rfl, rfl⟩)
  have nS : ∀ {b : Nat}, ¬ ((L b).cls = 2 ∧ (L b).idx = n) → b ≠ Q n := fun hn hx => hn (by rw [hx, hA.lS]; exact ⟨rfl, rfl⟩)
  have hsz : w.heap.size ≤ (w4.setCell ⟨Q n, 2, none⟩ (.slice (some ⟨R, 0, none⟩) (q.sent.length + 1) cap)).heap.size := by simp [World.setCell]; omega
  refine ⟨fun b => if b = R then ⟨2, n, 0, 1⟩ else L b, ⟨by rw [List.length_set]; exact H.len, fun k hkn => ?_, fun k qk hqk => ?_⟩, ⟨lab, fun b => ?_⟩, ⟨fun b hb => ?_, fun b hb => ?_, by have := hk.size; omega⟩, ⟨hg.os, hg.tape, hg.output, hsz, fun b hb hn => blk b hb (nV (fun hx => hn (.inl hx.1))) (nS (fun hx => hn (.inl hx.1)))⟩⟩
  · obtain ⟨h1, h2, h3⟩ := H.row k hkn
    exact ⟨by omega, (congrArg Lb.cls (lab rb h1)).trans h2, (cell_eq (blk rb h1 (nV (by omega)) (nS (by omega))) _).trans h3⟩
  · by_cases e : k = n
    · subst e
      rw [List.getElem?_set_self hnl] at hqk
      cases hqk
      refine ⟨af, cf, .slice (some ⟨R, 0, none⟩) (q.sent.length + 1) cap, ⟨ls_set2 (vS := vS) ?_, fun i u hu => ?_, hA.few, hA.took, ?_, (lab _ hSz).trans hA.lS, fun b hb => by cases hb; simp⟩⟩
      · exact (hg.block _ (by simp; omega) (fun e => by have a := hA.lV _ e.symm; rw [hA.lS] at a; cases a)).trans ((Below.heap_alloc _ _ _ hSz).trans hA.blk)
      · obtain ⟨b2, off2, e2, h1, h2, h3⟩ := hA.feed i u hu
        exact ⟨b2, off2, e2, by omega, (congrArg Lb.cls (lab b2 h1)).trans h2, (cell_eq (blk b2 h1 (nV (by omega)) (nS (by omega))) _).trans h3⟩
      · have e : ints (q.sent ++ [v]) = ints q.sent ++ [.int .i64 v] := by simp [ints]
        show World.ownsRow _ _ _ _ _ (q.sent ++ [v]).length (ints (q.sent ++ [v]))
        rw [e, List.length_append]
        exact own_keep hown (fun k hk => by cases hk; exact Below.heap_setCell _ _ _ _ hRS)
    · rw [List.getElem?_set_ne (fun e2 => e e2.symm)] at hqk
      obtain ⟨af2, cf2, vS2, hA2⟩ := H.lists k qk hqk
      exact ⟨af2, cf2, vS2, hA2.keep lab hsz (fun b hs hx => blk b hs (nV (by omega)) (nS (by omega)))⟩
  · by_cases e : b = R
    · right; left; simp [e]
    · left; simp only [e, if_false]
  · have hb2 := hk.low b hb
    have hBs := hk.size
    exact (congrArg Lb.cls (lab b (by omega))).trans hb2
  · have hb' : w4.heap.size ≤ b := by simpa [World.setCell] using hb
    have e : b ≠ R := by omega
    simp only [e, if_false]
    exact hk.new b (by omega)

theorem LsEn.take {B : Nat} {Q : Nat → Nat} {nb rb off : Nat} {L : Lab} {w w' : World} {x : List Lst} {n : Nat} {q q' : Lst} {af : Option Addr} {cf : Nat} {vS : Value}
    (H : LsEn Q nb rb off L w x) (hk : LOk B L w) (hq : x[n]? = some q) (hA : LAt L w (Q n) n q af cf vS) (hA' : LAt L w' (Q n) n q' af cf vS) (hC : Chg (fun b => b = Q n) w w') :
    ∃ L', LsEn Q nb rb off L' w' (x.set n q') ∧ ExE L L' w ∧ LOk B L' w' ∧ Chg (EB L) w w' := by
  have hnl : n < x.length := (List.getElem?_eq_some_iff.1 hq).1
  have nS : ∀ {b : Nat}, ¬ ((L b).cls = 2 ∧ (L b).idx = n) → b ≠ Q n := fun hn hx => hn (by rw [hx, hA.lS]; exact ⟨rfl, rfl⟩)
  refine ⟨L, ⟨by rw [List.length_set]; exact H.len, fun k hkn => ?_, fun k qk hqk => ?_⟩, ⟨.refl _ _, fun b => .inl rfl⟩, hk.on hC.size, hC.mono (fun b _ hx => by subst hx; left; rw [hA.lS])⟩
  · obtain ⟨h1, h2, h3⟩ := H.row k hkn
    have := hC.size
    exact ⟨by omega, h2, (cell_eq (hC.block rb h1 (nS (by omega))) _).trans h3⟩
  · by_cases e : k = n
    · subst e
      rw [List.getElem?_set_self hnl] at hqk
      cases hqk
      exact ⟨af, cf, vS, hA'⟩
    · rw [List.getElem?_set_ne (fun e2 => e e2.symm)] at hqk
      obtain ⟨af2, cf2, vS2, hA2⟩ := H.lists k qk hqk
      exact ⟨af2, cf2, vS2, hA2.keep (.refl _ _) hC.size (fun b hs hx => hC.block b hs (nS (by omega)))⟩
end Go.Proofs.YtnfbfdajdflfgaaGreat.Vw

/- Nobody hears; the walk of newTask. -/
namespace Go.Proofs.YtnfbfdajdflfgaaGreat.Vw
open Go.RowKit Vf Vm

set_option maxHeartbeats 400000 in
theorem nobody (e : Ev) (w : World) : Calls Tryz.prog 26 (#[evV e] ++ #[]) w fun r w' => r = .returned (.tuple #[]) ∧ Below w.heap.size w w' := by
  go_enter Tryz.func26, Tryz.ntmps26
  go_wp2
  go_end0
  exact ⟨rfl, (Below.refl _ w).alloc (Nat.le_refl _) _⟩

/-- A task is made round its first thread. -/
theorem made {c : Cx} {L1 : Lab} {o : Nat} {w1 : World} {Hn : Nat} {h : Th} {S g r : Nat} {vU : Value} (H : ThIn c L1 o 0 (fun _ => Hn) w1 h S g r vU) (hL : LOk c.B L1 w1) (hth : ∀ b, (L1 b).cls = 1 → (L1 b).idx = o → (L1 b).th ≤ 1) (vB ev : Value) :
    ∃ L', TkIn c vB ev L' o (w1.heap.size + 1) (fun _ => Hn) (((w1.setCell ⟨Hn, 2, none⟩ (.int .i64 2)).alloc (.cells #[.pointer (some ⟨Hn, 0, none⟩)] 67)).alloc (tkO c vB ev (.slice (some ⟨w1.heap.size, 0, none⟩) 1 1) Hn (.slice none 0 0) 0 0)) ⟨[{ h with stands := 2 }], 0, [], 0, 0, []⟩ (.slice (some ⟨w1.heap.size, 0, none⟩) 1 1) (.slice none 0 0) ∧
      LOk c.B L' (((w1.setCell ⟨Hn, 2, none⟩ (.int .i64 2)).alloc (.cells #[.pointer (some ⟨Hn, 0, none⟩)] 67)).alloc (tkO c vB ev (.slice (some ⟨w1.heap.size, 0, none⟩) 1 1) Hn (.slice none 0 0) 0 0)) ∧ ExW o L1 L' w1 := by
  obtain ⟨L2, S2, g2, r2, vU2, hT2, hE2, hL2, hC2⟩ := H.stood hL 2
  obtain ⟨w2, hw2⟩ : ∃ w2, w2 = w1.setCell ⟨Hn, 2, none⟩ (.int .i64 2) := ⟨_, rfl⟩
  have hz2 : w2.heap.size = w1.heap.size := by rw [hw2]; simp [World.setCell]
  change ThIn c L2 o 0 (fun _ => Hn) (w1.setCell ⟨Hn, 2, none⟩ (.int .i64 2)) _ _ _ _ _ at hT2
  change LOk c.B L2 (w1.setCell ⟨Hn, 2, none⟩ (.int .i64 2)) at hL2
  clear hC2
  rw [← hw2] at hT2 hL2 ⊢
  rw [← hz2]
  have old : ∀ b, b < w2.heap.size → ((w2.alloc (.cells #[.pointer (some ⟨Hn, 0, none⟩)] 67)).alloc (tkO c vB ev (.slice (some ⟨w2.heap.size, 0, none⟩) 1 1) Hn (.slice none 0 0) 0 0)).heap[b]? = w2.heap[b]? := fun b hb => (Below.heap_alloc _ _ _ (by simp; omega)).trans (Below.heap_alloc _ _ _ hb)
  have lab : ∀ b, b < w2.heap.size → (fun b => if b = w2.heap.size + 1 then (⟨1, o, 0, 4⟩ : Lb) else if b = w2.heap.size then ⟨1, o, 0, 5⟩ else L2 b) b = L2 b := fun b hb => by
    have e1 : ¬ b = w2.heap.size + 1 := by omega
    have e2 : ¬ b = w2.heap.size := by omega
    simp only [e1, e2, if_false]
  have hR : ((w2.alloc (.cells #[.pointer (some ⟨Hn, 0, none⟩)] 67)).alloc (tkO c vB ev (.slice (some ⟨w2.heap.size, 0, none⟩) 1 1) Hn (.slice none 0 0) 0 0)).heap[w2.heap.size]? = some (.cells #[.pointer (some ⟨Hn, 0, none⟩)] 67) := (Below.heap_alloc _ _ _ (by simp)).trans (heap_alloc_new w2 _)
  have hT : ((w2.alloc (.cells #[.pointer (some ⟨Hn, 0, none⟩)] 67)).alloc (tkO c vB ev (.slice (some ⟨w2.heap.size, 0, none⟩) 1 1) Hn (.slice none 0 0) 0 0)).heap[w2.heap.size + 1]? = some (tkO c vB ev (.slice (some ⟨w2.heap.size, 0, none⟩) 1 1) Hn (.slice none 0 0) 0 0) := by
    have := heap_alloc_new (w2.alloc (.cells #[.pointer (some ⟨Hn, 0, none⟩)] 67)) (tkO c vB ev (.slice (some ⟨w2.heap.size, 0, none⟩) 1 1) Hn (.slice none 0 0) 0 0)
    simpa using this
  refine ⟨fun b => if b = w2.heap.size + 1 then ⟨1, o, 0, 4⟩ else if b = w2.heap.size then ⟨1, o, 0, 5⟩ else L2 b, ⟨hT, ⟨rfl, .inr ⟨w2.heap.size, 1, #[.pointer (some ⟨Hn, 0, none⟩)], rfl, Nat.zero_le _, hR, Nat.le_refl _, by unfold maxLen; omega, rfl, rfl⟩⟩, ⟨rfl, .inl ⟨rfl, rfl⟩⟩, fun i h' hh => ?_, (by show 1 ≤ 31; omega), (by show 0 < 1; omega), by simp, fun b hb => (by cases hb; simp), fun b hb => (by cases hb), fun b h1 h2 => ?_⟩, ⟨fun b hb => ?_, fun b hb => ?_, by have := hL2.size; simp; omega⟩, ⟨fun b hb => (lab b (by omega)).trans (hE2.1 b hb), fun b => ?_⟩⟩
  · cases i with
    | zero =>
      cases hh
      exact ⟨S2, g2, r2, vU2, hT2.keep lab rfl rfl (fun b hb _ => old b hb)⟩
    | succ i => cases hh
  · show _ ≤ 1
    by_cases e1 : b = w2.heap.size + 1
    · simp only [e1, if_true]; omega
    · by_cases e2 : b = w2.heap.size
      · simp only [e2, if_true]; simp
      · simp only [e1, e2, if_false] at h1 h2 ⊢
        rcases hE2.2 b with e | e
        · rw [e] at h1 h2 ⊢; exact hth b h1 h2
        · omega
  · exact (congrArg Lb.cls (lab b (by have := hL2.size; omega))).trans (hL2.low b hb)
  · have hb' : w2.heap.size + 2 ≤ b := by simpa using hb
    have e1 : ¬ b = w2.heap.size + 1 := by omega
    have e2 : ¬ b = w2.heap.size := by omega
    simp only [e1, e2, if_false]
    exact hL2.new b (by omega)
  · by_cases e1 : b = w2.heap.size + 1
    · right; left; simp [e1]
    · by_cases e2 : b = w2.heap.size
      · right; left; simp [e2]
      · unfold WB EB
        simp only [e1, e2, if_false]
        rcases hE2.2 b with e | e
        · exact .inl e
        · exact .inr (.inl ⟨e.1, e.2.1⟩)

set_option maxRecDepth 100000 in
set_option maxHeartbeats 1000000 in
theorem newTask_any (c : Cx) (L : Lab) (o : Nat) (w : World) (hL : Hid (LOk c.B L w)) (hcx : Hid (CxIn c w)) (hfr : Hid (∀ b, ¬ ((L b).cls = 1 ∧ (L b).idx = o))) (ab : Option Addr) (cb : Nat) (sa : Option Addr) (sn sc n : Nat) (u : Un) (hu : Hid (c.m.units[n]? = some u)) (hp : u.params = 0) (hl2 : u.locals.length ≤ 200) :
    Calls Tryz.prog 12 #[.agg #[.slice ab c.m.boxes.length cb, .slice c.au c.m.units.length c.cu], .int .i64 n, .slice sa sn sc] w fun e w' => ∃ T L' P vR vO, e = .returned (.pointer (some ⟨T, 0, none⟩)) ∧ TkIn c (.slice sa sn sc) (.func (.func 26) #[] #[]) L' o T P w' (newTk u n) vR vO ∧ LOk c.B L' w' ∧ ExW o L L' w ∧ Below w.heap.size w w' := by
  have hmf : ∀ (fn : Fn) (first cap : Array Value) (w : World), (Instr.makeFunc fn first cap).run Tryz.prog w = .ok (.func fn first cap) w := fun _ _ _ _ => rfl
  obtain ⟨ub, uoff, al, cl, hau, hub, _, u0, u1, u2, u3, u4, u5⟩ := hcx.out.units n u hu.out
  have hnl : n < c.m.units.length := (List.getElem?_eq_some_iff.1 hu.out).1
  have hfew := hcx.out.few
  obtain ⟨ml, hml⟩ : ∃ m, m = c.m.units.length := ⟨_, rfl⟩
  have HAU := Sb.hide hau
  rw [hau, ← hml]
  rw [← hml] at hnl hfew
  have n0 : (0 : Int) ≤ (n : Int) := by omega
  have n1 : (n : Int) < (ml : Int) := by omega
  have HML := Sb.hide hml
  have hubz : ub < w.heap.size := by have := hL.out.size; omega
  have hne : ¬ w.heap.size = ub := by omega
  have hne2 : ¬ ub = w.heap.size := by omega
  have HP := Sb.hide hp
  have HX0 : Hid ((w.alloc (.cells #[.slice ab c.m.boxes.length cb, .slice (some ⟨ub, uoff, none⟩) ml c.cu] 25)).heap[w.heap.size]? = some (.cells #[.slice ab c.m.boxes.length cb, .slice (some ⟨ub, uoff, none⟩) ml c.cu] 25)) := heap_alloc_new w _
  clear hml hau hp
  go_enter Tryz.func12, Tryz.ntmps12
  go_wp2_with fail
  refine (newThread_th c L o 0 _ (Sb.hide (hL.out.on (by simp))) (Sb.hide (fun b hx => hfr.out b ⟨hx.1, hx.2.1⟩)) n u hu al cl (by rw [HP.out]; decide) (by rw [HP.out]; omega) hl2 [] (by rw [HP.out]; rfl) none 0 (Sb.hide (fun j x h => by cases h))).mono ?_
  rintro e w1 ⟨Hn, L1, rfl, hHz, hth, hE1, hL1, hB1⟩
  obtain ⟨S, g, r, vU, hT⟩ := hth (fun _ => Hn) rfl
  obtain ⟨t0, t1, t2, t3⟩ := hT.cells
  have fr := hT.free 2
  have HX1 : Hid (w1.heap[w.heap.size]? = some (.cells #[.slice ab c.m.boxes.length cb, .slice (some ⟨ub, uoff, none⟩) ml c.cu] 25)) := (hB1.block _ (by simp)).trans HX0.out
  have m1 : w1.cell? ⟨w.heap.size, 1, none⟩ = some (.slice (some ⟨ub, uoff, none⟩) ml c.cu) := by simp [World.cell?, HX1.out]
  have hHn : ¬ w.heap.size = Hn := by simp at hHz; omega
  have HT := Sb.hide hT
  have HE1 := Sb.hide hE1
  have HL1 := Sb.hide hL1
  have HB1 := Sb.hide hB1
  have HHz := Sb.hide hHz
  have hHw : Hn < w1.heap.size := lt_of_block hT.blk
  clear hth hT hE1 hL1 hB1 hHz
  go_wp2
  go_ret
  obtain ⟨L', k1, k2, k3⟩ := made HT.out HL1.out (fun b h1 h2 => by
    rcases HE1.out.2 b with e | e
    · rw [e] at h1 h2; exact absurd ⟨h1, h2⟩ (hfr.out b)
    · omega) (.slice sa sn sc) (.func (.func 26) #[] #[])
  have hHz := HHz.out
  have hBz := HB1.out.size
  simp at hHz hBz
  have hB0 : Below w.heap.size w w1 := ((Below.refl _ w).alloc (Nat.le_refl _) _).trans (HB1.out.mono (by simp))
  unfold tkO at k1 k2
  rw [HAU.out, ← HML.out] at k1 k2
  refine ⟨w1.heap.size + 1, L', fun _ => Hn, _, _, rfl, k1, k2, ?_, ?_⟩
  · have hEW : ExW o L L1 w := ⟨fun b hb => HE1.out.1 b (by simp; omega), fun b => (HE1.out.2 b).imp id (fun e => .inl ⟨e.1, e.2.1⟩)⟩
    exact hEW.trans k3 hB0.size
  · exact ((hB0.setCell (p := ⟨Hn, 2, none⟩) (by show w.heap.size ≤ Hn; omega) _).alloc (by simp [World.setCell]; omega) _).alloc (by simp [World.setCell]; omega) _
end Go.Proofs.YtnfbfdajdflfgaaGreat.Vw

