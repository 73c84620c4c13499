/- The walk of opt.change: what is done at an instruction. -/
import Derived.Test.YtlbihbfgglnfnaaM10
namespace Go.Proofs.Ytlbihbfgglnfnaa.Ow
open Go.RowKit Vf Vm Ot

/-- What passes hold, as they stand. -/
structure PsIn (lo hi : Nat) (w0 : World) (P g n cap R M W n0 : Nat) (fs : List (Nat × Array Value)) (aim : Nat → Bool) (w : World) : Prop where
  ps : w.heap[P]? = some (psO g n cap R M W n0)
  rls : RlsIn lo hi w0 R fs
  held : Held lo hi w0 w
  aims : AimIn w M aim
  his : hi ≤ w.heap.size
theorem PsIn.on {lo hi : Nat} {w0 : World} {P g n cap R M W n0 : Nat} {fs : List (Nat × Array Value)} {aim : Nat → Bool} {w w' : World} (h : PsIn lo hi w0 P g n cap R M W n0 fs aim w) (hb : Below w.heap.size w w') : PsIn lo hi w0 P g n cap R M W n0 fs aim w' :=
  ⟨(hb.block _ (lt_of_block h.ps)).trans h.ps, h.rls, fun j h1 h2 => (hb.block j (Nat.lt_of_lt_of_le h2 h.his)).trans (h.held j h1 h2), h.aims.keep (hb.block _ h.aims.lt), Nat.le_trans h.his hb.size⟩
theorem rule_cell {lo hi : Nat} {w0 w : World} {R : Nat} {fs : List (Nat × Array Value)} (h : RlsIn lo hi w0 R fs) (hh : Held lo hi w0 w) {i N : Nat} {caps : Array Value} (hi : fs[i]? = some (N, caps)) : w.cell? ⟨R, i, none⟩ = some (.func (.func N) #[] caps) := by
  have hb := (hh R h.at'.1 h.at'.2).trans h.blk
  simp [World.cell?, hb, hi]
theorem code_on {B : Nat} {w w' : World} {l : List Ins} {a : Option Addr} (h : CodeIn B w l a) (hB : B ≤ w.heap.size) (hb : Below w.heap.size w w') : CodeIn B w' l a := h.low (fun k hk => hb.block k (by omega))
theorem pick_at {ok : Nat → Bool} {d c : Ch} {l : List Ch} {i : Nat} (h : l[i]? = some c) : pick ok d (l.drop i) = if 0 < c.1 ∧ ok c.1 = true then c else pick ok d (l.drop (i + 1)) := by
  obtain ⟨h1, h2⟩ := List.getElem?_eq_some_iff.1 h
  rw [List.drop_eq_getElem_cons h1, h2]
  rfl
theorem rule1_few (l : List Ins) : (rule1 l).1 ≤ 3 := by
  unfold rule1
  split
  · split <;> simp
  · simp
theorem pair_few (second : Int) (put : Ins → Ins → List Ins) (first : List Int) (l : List Ins) : (pair second put first l).1 ≤ 3 := by
  unfold pair
  split
  · split <;> simp
  · simp
theorem next_few (k : Nat) (l : List Ins) : (next k l).1 ≤ 3 := by
  unfold next
  split
  · split <;> simp
  · simp
theorem rul_few (i k : Nat) (l : List Ins) : (rul i k l).1 ≤ 3 := by
  unfold rul
  split
  · exact rule1_few l
  · exact pair_few _ _ _ l
  · exact pair_few _ _ _ l
  · exact pair_few _ _ _ l
  · exact pair_few _ _ _ l
  · exact next_few k l
theorem putIs_set2 {w0 w w1 : World} {v : Value} {l : List Ins} {b : Nat} (h : PutIs w0 w v l) (hb : b < w0.heap.size) (hs : w1.heap.size ≤ w0.heap.size) (x y : Value) : PutIs w1 ((w.setCell ⟨b, 0, none⟩ x).setCell ⟨b, 1, none⟩ y) v l := by
  rcases h with h | ⟨c, q, h1, h2, h3, h4⟩
  · exact .inl h
  · exact .inr ⟨c, q, h1, h2, Nat.le_trans hs h3, by rw [Below.heap_setCell _ ⟨b, 1, none⟩ _ _ (by show q ≠ b; omega), Below.heap_setCell _ ⟨b, 0, none⟩ _ _ (by show q ≠ b; omega)]; exact h4⟩
/-- What is put there, or what stays. -/
def ChIs (w w' : World) (g cap : Nat) (l : List Ins) (x : Nat) (v : Value) : Prop :=
  PutIs w w' v (change l x).2 ∨ (v = .slice (some ⟨g, x * 3, none⟩) 1 (cap - x) ∧ ∃ c, l[x]? = some c ∧ change l x = (1, [c]))

set_option maxHeartbeats 2000000 in
set_option maxRecDepth 100000 in
theorem change_any (lo hi : Nat) (w0 : World) (P g cap R M W n0 B x : Nat) (fs : List (Nat × Array Value)) (l : List Ins) (w : World) (hP : Hid (PsIn lo hi w0 P g l.length cap R M W n0 fs (aimed l) w)) (hC : Hid (CodeIn B w (l.drop x) (some ⟨g, x * 3, none⟩))) (hB : B ≤ w.heap.size) (hl : l.length ≤ 4000) (hx : x < l.length) (hcap : l.length ≤ cap ∧ cap ≤ 9223372036854775807) :
    Calls Try.prog 36 #[.pointer (some ⟨P, 0, none⟩), .int .i64 x] w fun e w' => ∃ v m c, e = .returned (.agg #[.int .i64 (change l x).1, .slice v m c]) ∧ ChIs w w' g cap l x (.slice v m c) ∧ Below w.heap.size w w' := by
  obtain ⟨n, hn⟩ : ∃ n, n = l.length := ⟨_, rfl⟩
  rw [← hn] at hP hl hx hcap
  have HN := hide hn
  clear hn
  have x1 : (x : Int) ≤ 4000 := by omega
  have x2 : (x : Int) < (n : Int) := by omega
  have x3 : (x : Int) ≤ (n : Int) := by omega
  have n1 : (n : Int) ≤ 4000 := by omega
  have c1 : (n : Int) ≤ (cap : Int) := by omega
  have c2 : (x : Int) ≤ (cap : Int) := by omega
  obtain ⟨r, hr⟩ : ∃ r, r = l.drop x := ⟨_, rfl⟩
  have HRL : Hid (r.length = n - x) := by unfold Hid; rw [hr, List.length_drop, HN.out]
  have HRR := hide hr
  rw [← hr] at hC
  clear hr
  have HB0 : Hid (Below w.heap.size w (w.alloc chO)) := one_below _ _
  have HPV : Hid (PsIn lo hi w0 P g n cap R M W n0 fs (aimed l) (w.alloc chO)) := hP.out.on HB0.out
  have hVz : (w.alloc chO).heap.size = w.heap.size + 1 := by simp
  have HVZ := hide hVz
  have HV0 : Hid ((w.alloc chO).heap[w.heap.size]? = some chO) := heap_alloc_new _ _
  go_enter Try.func36, Try.ntmps36
  obtain ⟨p0, p1, p2, p3⟩ := ps_cells hP.out.ps
  have hPl := lt_of_block hP.out.ps
  go_wp2
  clear p0 p1 p2 p3
  go_loopw [13] (fun i wr => ∃ j : Nat, j ≤ 6 ∧ i = .int .i64 j ∧ change l x = pick (may l x) (1, [(l[x]?).getD i0]) ((answers x r).drop j) ∧ Below (w.heap.size + 1) (w.alloc chO) wr) (fun i _ => 6 - (intOf i).toNat)
  case atStart => exact ⟨0, Nat.zero_le _, rfl, by rw [HRR.out]; rfl, Below.refl _ _⟩
  case round =>
    obtain ⟨j, hj, rfl, hch, hB1⟩ := hrel
    have HCH := hide hch
    have HB1 : Hid (Below (w.alloc chO).heap.size (w.alloc chO) wr) := by unfold Hid; rw [HVZ.out]; exact hB1
    have HPR := hide (HPV.out.on HB1.out)
    obtain ⟨p0, p1, p2, p3⟩ := ps_cells HPR.out.ps
    have HBW : Hid (Below w.heap.size w wr) := below_onO HB0.out HB1.out
    have hP0 := HB1.out.block w.heap.size (by omega)
    obtain ⟨m0, m1, z0, z1⟩ := ch_cells (hP0.trans HV0.out)
    clear hch hB1 hP0
    by_cases hlt : j < 6
    · obtain ⟨⟨N, caps⟩, hfk⟩ : ∃ p, fs[j]? = some p := ⟨_, List.getElem?_eq_getElem (by rw [HPR.out.rls.len]; exact hlt)⟩
      have cr := rule_cell HPR.out.rls HPR.out.held hfk
      have HRU := hide (HPR.out.rls.rule j N caps hfk)
      have en := HRU.out.enter
      have j1 : (j : Int) < 6 := by omega
      clear hfk
      have hcall := HRU.out.call x r g (x * 3) (cap - x) B wr (by omega) (by rw [HRL.out]; omega) (by rw [HRL.out]; omega) (code_on hC.out hB HBW.out) (Nat.le_trans hB HBW.out.size) HPR.out.held
      rw [HRL.out] at hcall
      obtain ⟨gn, hgn⟩ : ∃ gn, gn = (rul j x r).1 := ⟨_, rfl⟩
      have hg3 : gn ≤ 3 := by rw [hgn]; exact rul_few _ _ _
      rw [← hgn] at hcall
      have HCA := hide hcall
      have HGN := hide hgn
      have HPK := hide (pick_at (ok := may l x) (d := (1, [(l[x]?).getD i0])) (rul_at x r hlt))
      clear hcall hgn
      go_wp2_with fail
      refine HCA.out.mono ?_
      rintro e w1 ⟨v, m, c, rfl, hp, hb1⟩
      have HP1 := hide hp
      have HB2 : Hid (Below (w.alloc chO).heap.size (w.alloc chO) w1) := below_onO HB1.out hb1
      clear hp hb1 HCA cr en p0 p1 p2 p3 m0 m1 z0 z1
      obtain ⟨W2, hW2⟩ : ∃ W2, W2 = w1.alloc (.cells #[.int .i64 gn, .slice v m c] 82) := ⟨_, rfl⟩
      have hb2 : Below w1.heap.size w1 W2 := by rw [hW2]; exact one_below _ _
      have q0 : W2.heap[w1.heap.size]? = some (.cells #[.int .i64 gn, .slice v m c] 82 (0, 0)) := by rw [hW2]; exact heap_alloc_new _ _
      have HB3 : Hid (Below (w.alloc chO).heap.size (w.alloc chO) W2) := below_onO HB2.out hb2
      have HP2 : Hid (PutIs wr W2 (.slice v m c) (rul j x r).2) := HP1.out.keep (Nat.le_refl _) hb2
      have HPS := hide (HPV.out.on HB3.out)
      have hV2 := HB3.out.block w.heap.size (by omega)
      have h1w : w.heap.size < w1.heap.size := Nat.lt_of_lt_of_le (by omega) HB2.out.size
      have hne : ¬ w1.heap.size = w.heap.size := by omega
      have hne2 : ¬ w.heap.size = w1.heap.size := by omega
      have HW2 := hide hW2.symm
      obtain ⟨a0, a1, y0, y1⟩ := ch_cells q0
      obtain ⟨m0, m1, z0, z1⟩ := ch_cells (hV2.trans HV0.out)
      have HQ0 := hide q0
      have HV2 := hide (hV2.trans HV0.out)
      clear hW2 hb2 q0 hV2 HB2 HP1
      go_upto_region 5 with fail
      rw [HW2.out]
      clear HW2
      by_cases hg0 : 0 < gn
      · have e1 : (0 : Int) < (gn : Int) := by omega
        obtain ⟨ok, hok⟩ : ∃ ok, ok = (decide (x + gn < n) && lone (aimed l) x (gn - 1)) := ⟨_, rfl⟩
        have HOK := hide hok
        have HMA : Hid (may l x gn = ok) := by unfold Hid; rw [hok, HN.out]; rfl
        clear hok
        go_wp2_with fail
        refine (may_any P g n cap R M W n0 x gn (aimed l) W2 (hide HPS.out.ps) (hide HPS.out.aims) hl (by omega) hg3 hg0 ok HOK).mono ?_
        rintro e w3 ⟨rfl, hb3⟩
        have HB4 : Hid (Below (w.alloc chO).heap.size (w.alloc chO) w3) := below_onO HB3.out hb3
        have HP3 : Hid (PutIs wr w3 (.slice v m c) (rul j x r).2) := HP2.out.keep (Nat.le_refl _) hb3
        obtain ⟨a0, a1, y0, y1⟩ := ch_cells ((hb3.block _ (lt_of_block HQ0.out)).trans HQ0.out)
        obtain ⟨m0, m1, z0, z1⟩ := ch_cells ((hb3.block _ (lt_of_block HV2.out)).trans HV2.out)
        clear hb3 HP2 HB3
        cases ok with
        | true =>
          have HR : Hid (change l x = rul j x r) := by
            unfold Hid
            rw [HCH.out, HPK.out, if_pos ⟨by rw [← HGN.out]; exact hg0, by rw [← HGN.out]; exact HMA.out⟩]
          have hwr := HBW.out.size
          have hwr1 : w.heap.size < wr.heap.size := Nat.lt_of_lt_of_le (by omega) HB1.out.size
          have HE : Hid (∀ a b, ChIs w ((w3.setCell ⟨w.heap.size, 0, none⟩ a).setCell ⟨w.heap.size, 1, none⟩ b) g cap l x (.slice v m c)) := fun a b => .inl (by
            rw [HR.out]
            exact putIs_set2 HP3.out hwr1 hwr a b)
          have HF : Hid (∀ a b, Below w.heap.size w ((w3.setCell ⟨w.heap.size, 0, none⟩ a).setCell ⟨w.heap.size, 1, none⟩ b)) := fun a b => set2_below (below_onO HB0.out HB4.out) a b
          have HG : Hid ((change l x).1 = gn) := by unfold Hid; rw [HR.out, HGN.out]
          go_wp2
          exact bodyPost_ret (v := .agg #[.int .i64 gn, .slice v m c]) (by simp [results, Try.results36, go_sem, m0, m1]) rfl ⟨_, _, _, by rw [HG.out], HE.out _ _, HF.out _ _⟩
        | false =>
          have HCH2 : Hid (change l x = pick (may l x) (1, [(l[x]?).getD i0]) ((answers x r).drop (j + 1))) := by
            unfold Hid
            rw [HCH.out, HPK.out, if_neg (fun h => by have := h.2; rw [← HGN.out, HMA.out] at this; cases this)]
          go_wp2
          go_roundw
          case rel => exact ⟨j + 1, by omega, by go_num, HCH2.out, by rw [← HVZ.out]; exact HB4.out⟩
          case measure => simp [intOf]; omega
      · have e1 : ¬ (0 : Int) < (gn : Int) := by omega
        have HCH2 : Hid (change l x = pick (may l x) (1, [(l[x]?).getD i0]) ((answers x r).drop (j + 1))) := by
          unfold Hid
          rw [HCH.out, HPK.out, if_neg (fun h => hg0 (by rw [HGN.out]; exact h.1))]
        clear hg0
        go_wp2
        go_roundw
        case rel => exact ⟨j + 1, by omega, by go_num, HCH2.out, by rw [← HVZ.out]; exact HB3.out⟩
        case measure => simp [intOf]; omega
    · obtain rfl : j = 6 := by omega
      have hlx : l[x]? = some l[x] := List.getElem?_eq_getElem (by rw [← HN.out]; exact hx)
      have HR : Hid (change l x = (1, [l[x]])) := by
        unfold Hid
        rw [HCH.out, hlx]
        rfl
      have HE : Hid (∀ a b, ChIs w ((wr.setCell ⟨w.heap.size, 0, none⟩ a).setCell ⟨w.heap.size, 1, none⟩ b) g cap l x (.slice (some ⟨g, x * 3, none⟩) 1 (cap - x))) := fun a b => .inr ⟨rfl, _, hlx, HR.out⟩
      have HF : Hid (∀ a b, Below w.heap.size w ((wr.setCell ⟨w.heap.size, 0, none⟩ a).setCell ⟨w.heap.size, 1, none⟩ b)) := fun a b => set2_below HBW.out a b
      have HG : Hid ((change l x).1 = 1) := by unfold Hid; rw [HR.out]
      have x4 : (x : Int) + 1 ≤ (cap : Int) := by omega
      have x5 : (x : Int) ≤ (x : Int) + 1 := by omega
      clear hlx hlt
      go_wp2
      exact bodyPost_ret (v := .agg #[.int .i64 1, .slice (some ⟨g, x * 3, none⟩) 1 (cap - x)]) (by simp [results, Try.results36, go_sem, m0, m1]) rfl ⟨_, _, _, by rw [HG.out]; rfl, HE.out _ _, HF.out _ _⟩
end Go.Proofs.Ytlbihbfgglnfnaa.Ow

/- The walk of opt.aim: where jumps go is noted. -/
namespace Go.Proofs.Ytlbihbfgglnfnaa.Ow
open Go.RowKit Vf Vm Ot

theorem aimed_take {l : List Ins} {k : Nat} {c : Ins} (h : l[k]? = some c) (n : Nat) : aimed (l.take (k + 1)) n = (aimed (l.take k) n || (jmp c && c.a == (n : Int))) := by
  unfold aimed
  rw [List.take_add_one, h, List.any_append]
  simp
/-- Blocks that are told apart. -/
structure Ap (lo hi P g M W : Nat) : Prop where
  pg : P ≠ g
  pm : P ≠ M
  pw : P ≠ W
  gm : g ≠ M
  gw : g ≠ W
  mw : M ≠ W
  oP : P < lo ∨ hi ≤ P
  oG : g < lo ∨ hi ≤ g
  oM : M < lo ∨ hi ≤ M
  oW : W < lo ∨ hi ≤ W
theorem PsIn.gm {lo hi : Nat} {w0 : World} {P g n cap R M W n0 : Nat} {fs : List (Nat × Array Value)} {aim aim' : Nat → Bool} {w w' : World} (h : PsIn lo hi w0 P g n cap R M W n0 fs aim w) (ha : Ap lo hi P g M W) (hg : w.grownBy w' (some M)) (hm : AimIn w' M aim') : PsIn lo hi w0 P g n cap R M W n0 fs aim' w' :=
  ⟨(hg.block P (lt_of_block h.ps) (by intro e; cases e; exact ha.pm rfl)).trans h.ps, h.rls, fun j h1 h2 => (hg.block j (Nat.lt_of_lt_of_le h2 h.his) (by intro e; cases e; have := ha.oM; omega)).trans (h.held j h1 h2), hm, Nat.le_trans h.his hg.size⟩
theorem code_gm {B : Nat} {w w' : World} {l : List Ins} {g M : Nat} {off : Nat} (h : CodeIn B w l (some ⟨g, off, none⟩)) (hB : B ≤ w.heap.size) (hg : w.grownBy w' (some M)) (hgm : g ≠ M) : CodeIn B w' l (some ⟨g, off, none⟩) := fun i x hx => by
  obtain ⟨h1, h2, h3, b, o, e, hb, c0, c1, c2⟩ := h i x hx
  cases e
  have hk := hg.block g (by omega) (by intro e; cases e; exact hgm rfl)
  exact ⟨h1, h2, h3, g, off, rfl, hb, (cell_eq hk _).trans c0, (cell_eq hk _).trans c1, (cell_eq hk _).trans c2⟩
theorem below_gm {w w' : World} (h : Below w.heap.size w w') (r : Option Nat) : w.grownBy w' r := ⟨h.os, h.tape, h.output, h.size, fun k hk _ => h.block k hk⟩
theorem gm_trans {a b c : World} {M : Nat} (h : a.grownBy b (some M)) (k : b.grownBy c (some M)) : a.grownBy c (some M) :=
  ⟨k.os.trans h.os, k.tape.trans h.tape, k.output.trans h.output, Nat.le_trans h.size k.size, fun j hj hne => (k.block j (Nat.lt_of_lt_of_le hj h.size) hne).trans (h.block j hj hne)⟩

set_option maxHeartbeats 2000000 in
set_option maxRecDepth 100000 in
theorem aim_any (lo hi : Nat) (w0 : World) (P g cap R M W n0 B : Nat) (fs : List (Nat × Array Value)) (l : List Ins) (aim0 : Nat → Bool) (w : World) (hP : Hid (PsIn lo hi w0 P g l.length cap R M W n0 fs aim0 w)) (ha : Hid (Ap lo hi P g M W)) (hC : Hid (CodeIn B w l (some ⟨g, 0, none⟩))) (hB : B ≤ w.heap.size) (hl : l.length ≤ 4000) (hj : Hid (Jumps l)) :
    Calls Try.prog 35 #[.pointer (some ⟨P, 0, none⟩)] w fun e w' => e = .returned (.tuple #[]) ∧ PsIn lo hi w0 P g l.length cap R M W n0 fs (aimed l) w' ∧ w.grownBy w' (some M) := by
  obtain ⟨n, hn⟩ : ∃ n, n = l.length := ⟨_, rfl⟩
  rw [← hn] at hP hl
  have HN := hide hn
  obtain ⟨p0, p1, p2, p3⟩ := ps_cells hP.out.ps
  obtain ⟨w1, hrun, hA1, hg1⟩ := run_cleared hP.out.aims 0
  have HG1 := hide hg1
  have HP1 : Hid (PsIn lo hi w0 P g n cap R M W n0 fs (aimed (l.take 0)) w1) := hP.out.gm ha.out hg1 hA1
  have n1 : (n : Int) ≤ 4000 := by omega
  clear hn hA1 hg1
  go_enter Try.func35, Try.ntmps35
  obtain ⟨q0, q1, q2, q3⟩ := ps_cells HP1.out.ps
  go_wp2
  clear p0 p1 p2 p3 q0 q1 q2 q3 hrun
  go_loopw [13] (fun i wr => ∃ k : Nat, k ≤ n ∧ i = .int .i64 k ∧ PsIn lo hi w0 P g n cap R M W n0 fs (aimed (l.take k)) wr ∧ w.grownBy wr (some M)) (fun i _ => n - (intOf i).toNat)
  case atStart => exact ⟨0, Nat.zero_le _, rfl, HP1.out, HG1.out⟩
  case round =>
    obtain ⟨k, hk, rfl, hPk, hGk⟩ := hrel
    have HPK := hide hPk
    have HGK := hide hGk
    clear hPk hGk HP1 HG1
    by_cases hlt : k < n
    · obtain ⟨c, hc⟩ : ∃ c, l[k]? = some c := ⟨_, List.getElem?_eq_getElem (by rw [← HN.out]; exact hlt)⟩
      obtain ⟨hgB, x0, x1, x2⟩ := code_cells (code_gm hC.out hB HGK.out ha.out.gm) hc
      rw [Nat.zero_add] at x0 x1 x2
      have HCK := hide hc
      have k0 : (0 : Int) ≤ (k : Int) := by omega
      have k1 : (k : Int) < (n : Int) := by omega
      have hgl : g < wr.heap.size := Nat.lt_of_lt_of_le hgB (Nat.le_trans hB HGK.out.size)
      obtain ⟨W2, hW2⟩ : ∃ W2, W2 = (wr.alloc (inO c)).alloc (inO c) := ⟨_, rfl⟩
      have hb2 : Below wr.heap.size wr W2 := by rw [hW2]; exact two_belowO _ _ _
      have hq : W2.heap[wr.heap.size]? = some (inO c) := by
        rw [hW2, Below.heap_alloc _ _ _ (by simp)]
        exact heap_alloc_new _ _
      have HW2 := hide hW2.symm
      have HP2 := hide (HPK.out.on hb2)
      have HG2 : Hid (w.grownBy W2 (some M)) := gm_trans HGK.out (below_gm hb2 _)
      have HQ := hide hq
      clear hc hW2 hb2 hq
      go_wp2_with fail
      refine (jumps_any c _).mono ?_
      rintro e w3 ⟨rfl, rfl⟩
      rw [HW2.out]
      clear HW2
      cases hjc : jmp c with
      | true =>
        obtain ⟨c0, c1⟩ := hj.out c (List.mem_of_getElem? HCK.out) hjc
        have hca : ((c.a.toNat : Nat) : Int) = c.a := by omega
        obtain ⟨w4, hrun, hA4, hg4⟩ := run_aimed (w := W2.drew) (k := c.a.toNat) (HP2.out.aims.keep (w' := W2.drew) rfl)
        rw [hca] at hrun
        have hAE : (fun i => decide (i = c.a.toNat) || aimed (l.take k) i) = aimed (l.take (k + 1)) := by
          funext i
          rw [aimed_take HCK.out, hjc, Bool.true_and, Bool.or_comm]
          congr 1
          by_cases h : i = c.a.toNat
          · subst h
            rw [hca]
            simp
          · have : ¬ c.a = (i : Int) := by omega
            simp [h, this]
        rw [hAE] at hA4
        have hg4' : W2.grownBy w4 (some M) := ⟨hg4.os, hg4.tape, hg4.output, hg4.size, hg4.block⟩
        have HP4 := hide (HP2.out.gm ha.out hg4' hA4)
        have HG4 := hide (gm_trans HG2.out hg4')
        obtain ⟨q0, q1, q2, q3⟩ := ps_cells HP2.out.ps
        have b1 : W2.cell? ⟨wr.heap.size, 1, none⟩ = some (.int .i64 c.a) := by simp [World.cell?, HQ.out]
        clear hA4 hg4 hg4' hAE hca c0 c1
        go_wp2
        go_region
        go_wp2
        go_roundw
        case rel => exact ⟨k + 1, by omega, by go_num, HP4.out, HG4.out⟩
        case measure => simp [intOf]; omega
      | false =>
        have hAE : aimed (l.take (k + 1)) = aimed (l.take k) := by
          funext i
          rw [aimed_take HCK.out, hjc]
          simp
        have HP4 : Hid (PsIn lo hi w0 P g n cap R M W n0 fs (aimed (l.take (k + 1))) W2) := by unfold Hid; rw [hAE]; exact HP2.out
        clear hAE
        go_wp2
        go_roundw
        case rel => exact ⟨k + 1, by omega, by go_num, HP4.out, HG2.out⟩
        case measure => simp [intOf]; omega
    · obtain rfl : k = n := by omega
      have HE : Hid (aimed (l.take k) = aimed l) := by unfold Hid; rw [HN.out, List.take_length]
      go_wp2
      go_end0
      exact ⟨rfl, by rw [← HE.out, ← HN.out]; exact HPK.out, HGK.out⟩
end Go.Proofs.Ytlbihbfgglnfnaa.Ow

