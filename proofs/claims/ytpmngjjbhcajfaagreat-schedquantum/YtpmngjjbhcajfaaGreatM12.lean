/- The walks of takeList and newThread. -/
import Derived.Test.YtpmngjjbhcajfaaGreatM11
namespace Go.Proofs.YtpmngjjbhcajfaaGreat.Vw
open Go.RowKit Vf Vm

theorem CK.below {w w' : World} {g : Nat} {ws : List Int} {r : Nat} (h : Sb.CK w g ws r) (e : w'.heap[g]? = w.heap[g]?) : Sb.CK w' g ws r := by
  obtain ⟨cs, hc, hr⟩ := h
  exact ⟨cs, e.trans hc, hr⟩

/-- k words have been copied. -/
structure TlAt (w : World) (l : List Int) (n : Nat) (k : Nat) (wr : World) : Prop where
  row : Sb.CK wr w.heap.size (l.take k) n
  below : Below w.heap.size w wr

set_option maxHeartbeats 2000000 in
theorem takeList_th (c : Cx) (L : Lab) (o i : Nat) (P : Nat → Nat) (w : World) (h : Th) (S g r : Nat) (vU : Value) (H : Hid (ThIn c L o i P w h S g r vU)) (hL : Hid (LOk c.B L w)) (n : Nat) (hn : n ≤ h.ws.length) :
    Calls Tryz.prog 112 #[.pointer (some ⟨P i, 0, none⟩), .int .i64 n] w fun e w' => ∃ G, e = .returned (.slice (some ⟨G, 0, none⟩) n n) ∧ Sb.CK w' G (h.ws.drop (h.ws.length - n)) n ∧ w.heap.size ≤ G ∧ TPost c L o i P w w' { h with ws := h.ws.take (h.ws.length - n) } := by
  obtain ⟨i0, hi, hz0, hz1, hz2⟩ := info_parts Sb.Tryz.info2
  have hfit := H.out.stack.2.2
  unfold Sk.Fits at hfit
  have hw4 : h.ws.length ≤ 400 := by omega
  have hPz := lt_of_block H.out.blk
  have hwr : IntKind.i64.wrap ((h.ws.length : Int) - (n : Int)) = (h.ws.length : Int) - (n : Int) := IntWalk.i64_in _ ⟨by omega, by omega⟩
  have HDL : Hid ((h.ws.drop (h.ws.length - n)).length = n) := by unfold Hid; simp; omega
  clear hfit
  go_enter Tryz.func112, Tryz.ntmps112
  go_wp2_with (at_make; refine wpList_make_full _ rfl _ _ 46 rfl w.heap.size 2 i0 (.int .i64 0) 1 Tryz.underlying46 hi hz0 hz1 _ _ _ _ n rfl rfl rfl rfl (by rw [hz2]; omega) (by unfold maxLen; omega) (Nat.le_refl _) ?_; intro w1 hown hgrow)
  have HS0 : Hid (TlAt w (h.ws.drop (h.ws.length - n)) n 0 w1) := ⟨Sb.ck_made hown, (Below.refl _ w).grown hgrow (Nat.le_refl _) (fun k hk => by simp at hk)⟩
  clear hown hgrow
  go_wp2
  go_loopw [11] (fun i' wr => ∃ k : Nat, i' = .int .i64 k ∧ k ≤ n ∧ TlAt w (h.ws.drop (h.ws.length - n)) n k wr) (fun i' _ => n - (intOf i').toNat)
  case atStart => exact ⟨0, rfl, Nat.zero_le _, HS0.out⟩
  case round =>
    obtain ⟨k, rfl, hk, hA⟩ := hrel
    have HR := Sb.hide hA.row
    have HB := Sb.hide hA.below
    have hG := lt_of_block hA.row.choose_spec.1
    have HT : Hid (ThIn c L o i P wr h S g r vU) := H.out.keep (.refl _ _) rfl rfl (fun b hb _ => HB.out.block b hb)
    obtain ⟨c0, c1, c2, c3⟩ := HT.out.cells
    clear hA HS0
    by_cases hlt : k < n
    · obtain ⟨x, hx⟩ : ∃ x, (h.ws.drop (h.ws.length - n))[k]? = some x := ⟨_, List.getElem?_eq_getElem (by rw [HDL.out]; exact hlt)⟩
      have HX : Hid (x = wordAt h.ws ((h.ws.length : Int) - (n : Int) + (k : Int))) := by
        unfold Hid wordAt
        rw [if_neg (by omega), show ((h.ws.length : Int) - (n : Int) + (k : Int)).toNat = h.ws.length - n + k by omega, ← List.getElem?_drop, hx]
        rfl
      have HTK : Hid ((h.ws.drop (h.ws.length - n)).take (k + 1) = (h.ws.drop (h.ws.length - n)).take k ++ [x]) := by unfold Hid; rw [List.take_add_one, hx]; rfl
      have HTL : Hid (((h.ws.drop (h.ws.length - n)).take k).length = k) := by unfold Hid; rw [List.length_take, HDL.out]; omega
      have hwr2 : IntKind.i64.wrap ((h.ws.length : Int) - (n : Int) + (k : Int)) = (h.ws.length : Int) - (n : Int) + (k : Int) := IntWalk.i64_in _ ⟨by omega, by omega⟩
      obtain ⟨uv, cu, fu⟩ := HR.out.at k hlt
      have n0 : (0 : Int) ≤ (k : Int) := by omega
      have n1 : (k : Int) < (n : Int) := by omega
      have hne : ¬ w.heap.size = P i := by omega
      have hne2 : ¬ P i = w.heap.size := by omega
      clear hx
      go_wp2
      go_region_held3 (fun w' => w'.cell? ⟨P i, 0, none⟩ = some (.pointer (some ⟨S, 0, none⟩))) (go_keep) (first | (go_at_call 73; (try rw [hwr]); (try rw [hwr2]); refine (word_any S g h.ws r 8 400 _ x _ (by exact HT.out.stack) HX).mono ?_; rintro e w' ⟨rfl, d, rfl⟩) | (go_at_call 93; refine (len_any S g h.ws r 8 400 _ (by exact HT.out.stack)).mono ?_; rintro e w' ⟨rfl, rfl⟩))
      go_wp2
      go_roundw
      case rel =>
        refine ⟨k + 1, by go_num, hlt, ?_, ?_⟩
        · rw [HTK.out]
          have := HR.out.push (by rw [HTL.out]; exact hlt) x
          rw [HTL.out] at this
          exact this
        · exact (below_drewN HB.out _).setCell (p := ⟨w.heap.size, k, none⟩) (Nat.le_refl _) _
      case measure => simp [intOf]; omega
    · obtain rfl : k = n := by omega
      have HR2 : Hid (Sb.CK wr w.heap.size (h.ws.drop (h.ws.length - k)) k) := by
        have := HR.out
        rw [List.take_of_length_le (by rw [HDL.out]; exact Nat.le_refl _)] at this
        exact this
      go_wp2_with fail
      refine (pop_th c L o i P _ h S g r vU HT (Sb.hide (hL.out.on HB.out.size)) k _ (Sb.hide rfl)).mono ?_
      rintro e w2 ⟨⟨x, rfl⟩, hp2⟩
      rw [if_neg (by omega), Int.toNat_natCast] at hp2
      have HC2 : Hid (Sb.CK w2 w.heap.size (h.ws.drop (h.ws.length - k)) k) := by
        obtain ⟨L2, g2, r2, _, _, _, h4⟩ := hp2
        refine CK.below HR2.out (h4.block _ hG (fun hx => ?_))
        have := hL.out.new w.heap.size (Nat.le_refl _)
        unfold ThB at hx
        omega
      have HP2 : Hid (TPost c L o i P w w2 { h with ws := h.ws.take (h.ws.length - k) }) := hp2.toT.trans (.refl _ _ _ _) (Chg.of_below HB.out)
      clear hp2
      go_wp2
      go_ret
      exact ⟨_, rfl, HC2.out, Nat.le_refl _, HP2.out⟩
end Go.Proofs.YtpmngjjbhcajfaaGreat.Vw

/- The walk of newThread. -/
namespace Go.Proofs.YtpmngjjbhcajfaaGreat.Vw
open Go.RowKit Vf Vm

abbrev emptyTh : Th := ⟨[], [], 0, none⟩
/-- A thread that was just made. -/
theorem th_made {c : Cx} {L : Lab} {o i : Nat} {w w0 w1 : World} {S g : Nat} (hL : LOk c.B L w) (h0 : w.heap.size ≤ w0.heap.size) (hg : w0.heap.size ≤ g) (hgS : g < S) (hS : Sb.SK w1 S g [] 8 8 400) (hb : Below w0.heap.size w0 w1) :
    ∃ L1, ThIn c L1 o i (fun _ => w1.heap.size) (w1.alloc (thO S (.slice none 0 0) 0 (.pointer none))) emptyTh S g 8 (.slice none 0 0) ∧ Ex o i L L1 w0 ∧ LOk c.B L1 (w1.alloc (thO S (.slice none 0 0) 0 (.pointer none))) := by
  obtain ⟨cs, hc, _⟩ := hS.2.1
  have z1 := lt_of_block hS.1
  have z2 := lt_of_block hc
  have hz := hb.size
  refine ⟨fun b => if b = S then ⟨1, o, i + 1, 1⟩ else if b = g then ⟨1, o, i + 1, 2⟩ else if b = w1.heap.size then ⟨1, o, i + 1, 0⟩ else L b, ⟨heap_alloc_new w1 _, SK.far hS (Below.heap_alloc _ _ _ z1) (Below.heap_alloc _ _ _ z2), World.ownsRow_nil _ _ _ _, by simp, ?_, by simp, ?_, fun U hU => by cases hU⟩, ⟨fun b hb' => ?_, fun b => ?_⟩, ⟨fun b hb' => ?_, fun b hb' => ?_, by have := hL.size; simp; omega⟩⟩
  · have a1 : ¬ w1.heap.size = S := by omega
    have a2 : ¬ w1.heap.size = g := by omega
    simp [a1, a2]
  · have a1 : ¬ g = S := by omega
    simp [a1]
  · have a1 : ¬ b = S := by omega
    have a2 : ¬ b = g := by omega
    have a3 : ¬ b = w1.heap.size := by omega
    simp [a1, a2, a3]
  · by_cases a1 : b = S
    · right; simp [a1]
    · by_cases a2 : b = g
      · right; simp [a2]; split <;> simp
      · by_cases a3 : b = w1.heap.size
        · right
          have b1 : ¬ w1.heap.size = S := by omega
          have b2 : ¬ w1.heap.size = g := by omega
          simp [a3, b1, b2]
        · left; simp [a1, a2, a3]
  · have := hL.size
    have a1 : ¬ b = S := by omega
    have a2 : ¬ b = g := by omega
    have a3 : ¬ b = w1.heap.size := by omega
    simp [a1, a2, a3, hL.low b hb']
  · simp at hb'
    have a1 : ¬ b = S := by omega
    have a2 : ¬ b = g := by omega
    have a3 : ¬ b = w1.heap.size := by omega
    simp only [a1, a2, a3, if_false]
    exact hL.new b (by omega)

/-- k parameters have come. -/
structure NtAt (c : Cx) (L1 : Lab) (o i H : Nat) (w0 w2 : World) (ps : List Int) (X : Nat) (ob : Obj) (k : Nat) (wr : World) : Prop where
  post : TPost c L1 o i (fun _ => H) w2 wr { emptyTh with ws := ps.take k }
  below : Below w0.heap.size w0 wr
  box : wr.heap[X]? = some ob

theorem below_of_chg {c : Cx} {L L1 : Lab} {o i : Nat} {w0 w2 w3 : World} (hfr : ∀ b, ¬ ThB L o i b) (hE : Ex o i L L1 w0) (hb : Below w0.heap.size w0 w2) (hc : Chg (ThB L1 o i) w2 w3) (_ : c = c) : Below w0.heap.size w0 w3 :=
  ⟨hc.os.trans hb.os, hc.tape.trans hb.tape, hc.output.trans hb.output, Nat.le_trans hb.size hc.size, fun b hb' => (hc.block b (by have := hb.size; omega) (fun hx => hfr b (by unfold ThB at hx ⊢; rw [hE.1 b hb'] at hx; exact hx))).trans (hb.block b hb')⟩

theorem NtAt.next {c : Cx} {L L1 L2 : Lab} {o i H : Nat} {w0 w2 wr w3 : World} {ps : List Int} {X : Nat} {ob : Obj} {k S : Nat} {x : Int} {vU : Value} (hfr : ∀ b, ¬ ThB L o i b) (hE : Ex o i L L1 w0) (hX : X < w0.heap.size) (hA : Below w0.heap.size w0 wr) (hbx : wr.heap[X]? = some ob) (hE2 : Ex o i L1 L2 w2) (hC2 : Chg (ThB L1 o i) w2 wr) (hz : w0.heap.size ≤ w2.heap.size) (hx : ps[k]? = some x) (hp : SPost c L2 o i (fun _ => H) wr w3 { emptyTh with ws := ps.take k ++ [x] } S vU) : NtAt c L1 o i H w0 w2 ps X ob (k + 1) w3 := by
  have e : ps.take k ++ [x] = ps.take (k + 1) := by rw [List.take_add_one, hx]; rfl
  rw [e] at hp
  have hT := hp.toT.trans hE2 hC2
  obtain ⟨L3, g3, r3, _, _, _, h4⟩ := hp
  have hb : Below w0.heap.size w0 w3 := below_of_chg (c := c) hfr (hE.trans hE2 hz) hA h4 rfl
  exact ⟨hT, hb, (hb.block X hX).trans ((hA.block X hX).symm.trans hbx)⟩

set_option maxHeartbeats 4000000 in
/-- WHAT newThread ANSWERS. -/
theorem newThread_th (c : Cx) (L : Lab) (o i : Nat) (w : World) (hL : Hid (LOk c.B L w)) (hfr : Hid (∀ b, ¬ ThB L o i b)) (n : Nat) (u : Un) (hu : Hid (c.m.units[n]? = some u)) (al : Option Addr) (cl : Nat) (hp0 : 0 ≤ u.params) (hpl : u.params ≤ u.locals.length) (hl2 : u.locals.length ≤ 200) (ps : List Int) (hps : ps.length = u.params.toNat) (a : Option Addr) (cp : Nat) (hin : Hid (∀ (j : Nat) x, ps[j]? = some x → ∃ b off, a = some ⟨b, off, none⟩ ∧ b < w.heap.size ∧ w.cell? ⟨b, off + j, none⟩ = some (.int .i64 x))) :
    Calls Tryz.prog 53 #[unV c n u al cl, .slice a ps.length cp] w fun e w' => ∃ H L', e = .returned (.pointer (some ⟨H, 0, none⟩)) ∧ w.heap.size ≤ H ∧ (∀ P : Nat → Nat, P i = H → ∃ S g r vU, ThIn c L' o i P w' (newTh u n ps) S g r vU) ∧ Ex o i L L' w ∧ LOk c.B L' w' ∧ Below w.heap.size w w' := by
  have hp6 : ps.length ≤ 200 := by omega
  go_enter Tryz.func53, Tryz.ntmps53
  go_wp2_with fail
  refine (Sb.snew_any 8 400 _ (by omega) (by omega) (by omega)).mono ?_
  rintro e w1 ⟨S, rfl, hS, hSz, hb⟩
  obtain ⟨L1, hT1, hE1, hL1⟩ := th_made (o := o) (i := i) hL.out (w0 := w.alloc (unO c n u al cl)) (by simp) (Nat.le_refl _) hSz hS hb
  have HT1 := Sb.hide hT1
  have HE1 := Sb.hide hE1
  have HL1 := Sb.hide hL1
  have HB1 := Sb.hide hb
  have hz1 := hb.size
  simp at hz1
  have HSt : Hid (NtAt c L1 o i w1.heap.size (w.alloc (unO c n u al cl)) (w1.alloc (thO S (.slice none 0 0) 0 (.pointer none))) ps w.heap.size (unO c n u al cl) 0 (w1.alloc (thO S (.slice none 0 0) 0 (.pointer none)))) :=
    ⟨(SPost.of_same hT1 hL1 0).toT, hb.alloc (by simp; omega) _, (Below.heap_alloc _ _ _ (by omega)).trans ((hb.block _ (by simp)).trans (heap_alloc_new w _))⟩
  clear hT1 hE1 hL1 hb hS
  go_wp2
  go_loopw [19] (fun i' wr => ∃ k : Nat, i' = .int .i64 k ∧ k ≤ ps.length ∧ NtAt c L1 o i w1.heap.size (w.alloc (unO c n u al cl)) (w1.alloc (thO S (.slice none 0 0) 0 (.pointer none))) ps w.heap.size (unO c n u al cl) k wr) (fun i' _ => ps.length - (intOf i').toNat)
  case atStart => exact ⟨0, rfl, Nat.zero_le _, HSt.out⟩
  case round =>
    obtain ⟨k, rfl, hk, hA⟩ := hrel
    obtain ⟨⟨L2, S2, g2, r2, vU2, hT2, hE2, hL2, hC2⟩, hbl, hbx⟩ := hA
    have HT2 := Sb.hide hT2
    have HE2 := Sb.hide hE2
    have HL2 := Sb.hide hL2
    have HC2 := Sb.hide hC2
    have HBL := Sb.hide hbl
    have HBX := Sb.hide hbx
    obtain ⟨d0, d1, d2, d3⟩ := hT2.cells
    obtain ⟨x1, x2, x5⟩ := un_cells hbx
    have y0 : wr.cell? ⟨w.heap.size, 0, none⟩ = some (.int .i64 u.kind) := by simp [World.cell?, hbx]
    have y3 : wr.cell? ⟨w.heap.size, 3, none⟩ = some (.int .i64 u.result) := by simp [World.cell?, hbx]
    have y4 : wr.cell? ⟨w.heap.size, 4, none⟩ = some (.int .i64 u.takes) := by simp [World.cell?, hbx]
    clear hT2 hE2 hL2 hC2 hbl hbx HSt
    by_cases hlt : k < ps.length
    · obtain ⟨x, hx⟩ : ∃ x, ps[k]? = some x := ⟨_, List.getElem?_eq_getElem hlt⟩
      obtain ⟨b, off, rfl, hbz, cx⟩ := hin.out k x hx
      have cx2 : wr.cell? ⟨b, off + k, none⟩ = some (.int .i64 x) := (HBL.out.cell (p := ⟨b, off + k, none⟩) (by simp; omega)).trans ((World.cell?_of_block (Below.heap_alloc _ _ _ hbz)).trans cx)
      have HX := Sb.hide hx
      have n0 : (0 : Int) ≤ (k : Int) := by omega
      have n1 : (k : Int) < (ps.length : Int) := by omega
      have HLE : Hid ((ps.take k).length = k) := by unfold Hid; simp; omega
      clear hx cx
      go_wp2_with fail
      refine (push_th c L2 o i _ _ _ S2 g2 r2 vU2 HT2 HL2 x 0 (Sb.hide (by rw [if_neg (by simp; omega)])) _ (Sb.hide rfl)).mono ?_
      rintro e w3 ⟨rfl, hp3⟩
      rw [if_neg (by simp; omega)] at hp3
      have HREL := Sb.hide (NtAt.next hfr.out HE1.out (by simp) HBL.out HBX.out HE2.out HC2.out (by simp; omega) HX.out hp3)
      clear hp3
      go_wp2
      go_roundw
      case rel => exact ⟨k + 1, by go_num, hlt, HREL.out⟩
      case measure => simp [intOf]; omega
    · obtain rfl : k = ps.length := by omega
      have HTK : Hid (ps.take ps.length = ps) := by unfold Hid; simp
      have HT3 : Hid (ThIn c L2 o i (fun _ => w1.heap.size) wr { emptyTh with ws := ps } S2 g2 r2 vU2) := by have := HT2.out; rw [HTK.out] at this; exact this
      clear HT2
      go_wp2_with fail
      refine (enter_th c L2 o i (fun _ => w1.heap.size) _ { emptyTh with ws := ps } S2 g2 r2 vU2 HT3 HL2 n u hu al cl hp0 (by show u.params ≤ (ps.length : Int); omega) hpl hl2 (by show 0 < 40; omega) true (Sb.hide (by simp; omega)) (newTh u n ps) (Sb.hide (by simp [newTh, hps]))).mono ?_
      rintro e w4 ⟨rfl, hp4⟩
      obtain ⟨L4, S4, g4, r4, vU4, hT4, hE4, hL4, hC4⟩ := hp4
      have hE : Ex o i L L4 (w.alloc (unO c n u al cl)) := (HE1.out.trans HE2.out (by simp; omega)).trans hE4 HBL.out.size
      have HFIN : Hid ((∀ P : Nat → Nat, P i = w1.heap.size → ∃ S g r vU, ThIn c L4 o i P w4 (newTh u n ps) S g r vU) ∧ Ex o i L L4 w ∧ LOk c.B L4 w4 ∧ Below w.heap.size w w4) := by
        refine ⟨fun P hP => ⟨S4, g4, r4, vU4, hT4.keep (.refl _ _) hP rfl (fun _ _ _ => rfl)⟩, ⟨fun b hb => hE.1 b (by simp; omega), hE.2⟩, hL4, ?_⟩
        have := below_of_chg (c := c) hfr.out (HE1.out.trans HE2.out (by simp; omega)) HBL.out hC4 rfl
        exact ((Below.refl _ w).alloc (Nat.le_refl _) _).trans (this.mono (by simp))
      clear hT4 hE4 hL4 hC4 hE
      go_wp2
      go_ret
      exact ⟨_, L4, rfl, by omega, HFIN.out⟩
end Go.Proofs.YtpmngjjbhcajfaaGreat.Vw

