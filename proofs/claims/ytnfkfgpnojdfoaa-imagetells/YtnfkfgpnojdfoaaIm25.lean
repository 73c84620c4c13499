/- The walk of the document's Bytes. -/
import Derived.Test.YtnfkfgpnojdfoaaIm24
namespace Go.Proofs.Ytnfkfgpnojdfoaa
open Go.RowKit

/-- An append of one row of the call's own to another, as a step of a region that draws its order. -/
theorem step_append_rows {P : Program} {ops : Array Oper} {o : Oper} {a : Act} {w : World} {K : Act → World → Prop} {Q : Exit → Act → World → Prop} {E : Prop} (hgd : o.guard = none) (s x : Operand) (t : TypeId)
    (ho : o.op = .call { callee := .builtin .append, args := #[s, x], argTypes := #[t, t] })
    (base : Nat) (e : TypeId) (i : TypeInfo) (z : Value) (size bytes : Nat) (ht : P.underlying t = some (.slice e)) (hi : P.info? e = some i) (hz : i.zero = some z)
    (hsize : i.size = size) (hby : i.bytes = bytes) (hzs : z.cells.size = size) (hsz : 0 < size)
    (v : Value) (n : Nat) (xs : List Value) (hs : a.eval s = v) (hown : w.ownsRow base e size v n xs)
    (b2 : Nat) (vx : Value) (m : Nat) (news : List Value) (hx : a.eval x = vx) (hown2 : w.ownsRow b2 e size vx m news) (h1 : ∀ u ∈ news, u.oneCell' = true)
    (h63 : n + m ≤ maxLen) (hbytes : (n + m) * bytes ≤ 140737488355328) (hbase : base ≤ w.heap.size)
    (h : ∀ v' w', w'.ownsRow base e size v' (n + m) (xs ++ news) → w.grownBy w' v.ownBlock → K (a.put o.dst v') w') :
    if Region.wanted o (yielded ops a.tmps) = true then Oper.wp P o a w K Q else E := by
  have hw : Region.wanted o (yielded ops a.tmps) = true := by simp [Region.wanted, hgd]
  rw [if_pos hw]
  have hl := hown2.1
  rcases hown2.2 with ⟨rfl, rfl⟩ | ⟨g, cap, cur, rfl, r⟩
  · have hrun := run_append_owned_none (P := P) (w := w) base t o.type e i size ht hi v n xs hown
    obtain rfl : news = [] := List.eq_nil_of_length_eq_zero (by simpa using hl)
    unfold Oper.wp
    simp [execOp, ho, resolve, invoke, builtin, hs, hx, hrun, Result.andThen]
    exact h v w (by simpa using hown) (World.grownBy.refl _ _)
  · exact wp_append_own w s x t ho base e i z size bytes ht hi hz hsize hby hzs hsz v n xs hs hown ⟨g, 0, none⟩ m cap news hx hl (hown2.cells (g := g) rfl) h1 h63 hbytes hbase (fun v' w' h2 h3 _ => h v' w' h2 h3)


theorem BAt.rebase {B : Nat} {w W : World} {ys : List Nat} {v : Value} (h : BAt B w ys v W) (o : Obj) : BAt B (W.alloc o) ys v (W.alloc o) := ⟨Kp.refl _ _, h.own.alloc _, by have := h.base; have := h.kp.size; simp; omega⟩
theorem BAt.back {B : Nat} {w W W2 : World} {ys zs : List Nat} {v u : Value} {o : Obj} (h : BAt B w ys v W) (k : BAt B (W.alloc o) zs u W2) : BAt B w zs u W2 := ⟨(h.kp.alloc (by have := h.base; have := h.kp.size; omega) o).trans k.kp, k.own, h.base⟩
theorem BAt.size {B : Nat} {w W : World} {ys : List Nat} {v : Value} (h : BAt B w ys v W) : B ≤ W.heap.size := by have := h.base; have := h.kp.size; omega

/-- Ahead of an append of what nums, or Num, gave. -/
theorem below_news {W w2 : World} {o : Obj} (h : Below (W.alloc o).heap.size (W.alloc o) w2) : Below W.heap.size W w2 := ((Below.refl _ W).alloc (Nat.le_refl _) o).trans (h.mono (by simp))
theorem below_news2 {W w2 : World} {o p : Obj} (h : Below ((W.alloc o).alloc p).heap.size ((W.alloc o).alloc p) w2) : Below W.heap.size W w2 := (((Below.refl _ W).alloc (Nat.le_refl _) o).alloc (by simp) p).trans (h.mono (by simp; omega))

theorem ints_up {B : Nat} {w : World} {l : List Int} {a : Option Addr} (h : IntsIn B w l a) (hB : B ≤ w.heap.size) : IntsIn w.heap.size w l a := fun i x hx => by
  obtain ⟨h1, b, off, e, hs, hc⟩ := h i x hx
  refine ⟨h1, b, off, e, ?_, hc⟩
  rcases hs with hs | hs
  · exact .inl (by omega)
  · exact .inr hs

theorem alloc_at2d (w : World) (o p : Obj) : (((w.alloc o).drew).alloc p).heap[w.heap.size + 1]? = some p := alloc_at2 w o p
theorem alloc_at1d (w : World) (o p : Obj) : (((w.alloc o).drew).alloc p).heap[w.heap.size]? = some o := alloc_at1 w o p
theorem below_n1 {W w2 : World} {o p : Obj} (h : Below (((W.alloc o).drew).alloc p).heap.size (((W.alloc o).drew).alloc p) w2) : Below W.heap.size W w2 := by
  have h0 : Below W.heap.size (W.alloc o) (W.alloc o).drew := ⟨rfl, rfl, rfl, Nat.le_refl _, fun _ _ => rfl⟩
  have h1 : Below W.heap.size W (((W.alloc o).drew).alloc p) := (((Below.refl _ W).alloc (Nat.le_refl _) o).trans h0).alloc (by show W.heap.size ≤ (W.alloc o).heap.size; simp) p
  exact h1.trans (h.mono h1.size)
theorem ins_cells {w : World} {N : Nat} {x : Im.Ins} (h : w.heap[N]? = some (.cells #[.int .i64 x.op, .int .i64 x.a, .int .i64 x.n] 54 (0, 0))) : w.cell? ⟨N, 0, none⟩ = some (.int .i64 x.op) ∧ w.cell? ⟨N, 1, none⟩ = some (.int .i64 x.a) ∧ w.cell? ⟨N, 2, none⟩ = some (.int .i64 x.n) := by
  simp [World.cell?, h]



set_option maxRecDepth 100000 in
set_option maxHeartbeats 8000000 in
theorem rbytes_any (m : Im.Md) (ab au : Option Addr) (cb cu : Nat) (w : World) (hin : Hid (ModIn w.heap.size w m ab au)) (hbd : (Im.body m).length ≤ 1000000000) (hfl : Hid (∀ u ∈ m.units, u.locals.length ≤ 1000000000)) (out : List Nat) (er : Int) (hout : Hid (Im.bytes m = (out, er))) :
    Calls Try.prog 7 #[.agg #[.slice ab m.boxes.length cb, .slice au m.units.length cu]] w fun e w' => ∃ v, e = .returned (.tuple #[v, .int .i64 er]) ∧ w'.ownsRow w.heap.size 5 1 v out.length (bts out) ∧ Below w.heap.size w w' := by
  obtain ⟨i0, hi, hz0, hz1, hz2⟩ := info_parts Try.info5
  obtain ⟨hl1, hl2⟩ := hin.out.few
  have H1 : Hid (I64 (m.boxes.length : Int)) := ⟨by omega, by omega⟩
  have H2 : Hid (I64 (m.units.length : Int)) := ⟨by omega, by omega⟩
  obtain ⟨nb, hnb⟩ : ∃ nb, nb = Im.body m := ⟨_, rfl⟩
  have HNB := hide hnb
  obtain ⟨A, hA⟩ : ∃ A, A = Im.nums [(m.boxes.length : Int)] := ⟨_, rfl⟩
  obtain ⟨R, hR⟩ : ∃ R, R = Im.nums [(m.units.length : Int)] := ⟨_, rfl⟩
  have HN : Hid (nb = A ++ m.boxes.flatMap Im.bxb ++ R ++ m.units.flatMap Im.unb) := by unfold Hid; rw [hnb, hA, hR]; rfl
  rw [← hnb] at hbd
  have HA := hide hA
  have HRR := hide hR
  clear hA hR hnb
  obtain ⟨W0, hW0⟩ : ∃ W0, W0 = w.alloc (mdO m ab au cb cu) := ⟨_, rfl⟩
  obtain ⟨B, hB⟩ : ∃ B, B = w.heap.size := ⟨_, rfl⟩
  have hBs : B ≤ W0.heap.size := by rw [hW0, hB]; simp
  have HB0 : Hid (Below B w W0) := by rw [hW0, hB]; exact (Below.refl _ w).alloc (Nat.le_refl _) _
  have HMD : Hid (W0.heap[w.heap.size]? = some (mdO m ab au cb cu)) := by rw [hW0]; exact heap_alloc_new w _
  have HIN : Hid (ModIn B W0 m ab au) := by
    have h1 := hin.out.kp ((Kp.refl w.heap.size w).alloc (Nat.le_refl _) (mdO m ab au cb cu))
    rw [hW0, hB]; exact h1
  have HS0 : Hid (W0.heap.size = w.heap.size + 1) := by unfold Hid; rw [hW0]; simp
  have HW0 := hide hW0
  have HBB := hide hB
  clear hW0 hB
  have HBA0 : Hid (Below W0.heap.size W0 (W0.alloc (.cells #[.int .i64 m.boxes.length] 3))) := (Below.refl _ _).alloc (Nat.le_refl _) _
  go_enter Try.func7, Try.ntmps7
  go_wp2_with fail
  rw [← HW0.out]
  refine (rnums1_any (w.heap.size + 1) _ H1 _ (by rw [← HS0.out]; exact alloc_at _ _) A HA).mono ?_
  rintro e w2 ⟨v, rfl, hown, hb2⟩
  have HBA : Hid (BAt B W0 A v w2) := ⟨Kp.of_below (below_news hb2) hBs, own_base hown (by simp; omega), hBs⟩
  have hM2 := HBA.out.kp.blk _ _ _ _ HMD.out (by decide) (by decide)
  obtain ⟨c0, c1⟩ := md_cells hM2
  clear hown hb2 hM2 HBA0
  go_wp2
  clear c0 c1
  go_loopw [4, 20] (fun v i wr => ∃ k : Nat, k ≤ m.boxes.length ∧ i = .int .i64 k ∧ BAt B W0 (A ++ (m.boxes.take k).flatMap Im.bxb) v wr) (fun _ i _ => m.boxes.length - (intOf i).toNat)
  case atStart => exact ⟨0, Nat.zero_le _, rfl, by simpa using HBA.out⟩
  case round =>
    obtain ⟨k, hk, rfl, hC⟩ := hrel
    have HC := hide hC
    clear hC HBA
    by_cases hlt : k < m.boxes.length
    · obtain ⟨x, hx⟩ : ∃ x, m.boxes[k]? = some x := ⟨_, List.getElem?_eq_getElem hlt⟩
      obtain ⟨i1, i2, b, off, he, _, c0, c1⟩ := HIN.out.boxes.kp HC.out.kp k x hx
      have HX := hide hx
      have H3 : Hid (I64 x.ty ∧ I64 x.cap) := ⟨i1, i2⟩
      clear hx i1 i2
      obtain ⟨ys, hys⟩ : ∃ ys, ys = A ++ (m.boxes.take k).flatMap Im.bxb := ⟨_, rfl⟩
      have HU : Hid (BAt B W0 ys u4 wr) := by rw [hys]; exact HC.out
      obtain ⟨P, hP⟩ : ∃ P, P = Im.bxb x := ⟨_, rfl⟩
      have hlen : ys.length + P.length ≤ 1000000000 := by
        have e := congrArg List.length HN.out
        rw [flat_take Im.bxb HX.out] at e
        rw [hys, hP]
        simp at e ⊢
        omega
      have HYS : Hid (A ++ (m.boxes.take (k + 1)).flatMap Im.bxb = ys ++ P) := by
        unfold Hid; rw [flat_next Im.bxb HX.out, hys, hP]; simp only [List.append_assoc]
      have HP : Hid (P = Im.nums [x.ty, x.cap]) := hP
      clear hys HC hP
      subst he
      go_wp2_with fail
      refine (rnums2_any (wr.heap.size + 1) _ _ H3 _ (alloc_at2 _ _ _) P HP).mono ?_
      clear c0 c1
      rintro e w2 ⟨v2, rfl, hown, hb2⟩
      have HBN := hide (below_news2 hb2)
      have HON := hide (own_base hown (B := wr.heap.size) (by simp; omega))
      clear hown hb2
      go_wp2_with (at_builtin; refine wpList_append_rows rfl _ _ 26 rfl B 5 i0 (.int .u8 0) 1 1 Try.underlying26 hi hz0 hz1 hz2 rfl (by decide) _ _ _ rfl (HU.out.row HBN.out) wr.heap.size _ P.length (bts P) rfl HON.out (bts_cell P) (by unfold maxLen; omega) (by omega) (Nat.le_trans HU.out.size HBN.out.size) ?_; intro v' w3 hown' hgrow; have HU5 : Hid (BAt B W0 (A ++ (m.boxes.take (k + 1)).flatMap Im.bxb) v' w3) := (by rw [HYS.out]; exact HU.out.next HBN.out hown' hgrow); clear hown' hgrow)
      clear HU HBN HON
      go_wp2
      go_roundw
      case rel => exact ⟨k + 1, by omega, by go_num, HU5.out⟩
      case measure => simp [intOf]; omega
    · obtain rfl : k = m.boxes.length := by omega
      have HU : Hid (BAt B W0 (A ++ m.boxes.flatMap Im.bxb) u4 wr) := by have := HC.out; rw [List.take_length] at this; exact this
      clear HC
      have hM2 := HU.out.kp.blk _ _ _ _ HMD.out (by decide) (by decide)
      obtain ⟨c0, c1⟩ := md_cells hM2
      clear hM2
      obtain ⟨pre, hpre⟩ : ∃ pre, pre = A ++ m.boxes.flatMap Im.bxb := ⟨_, rfl⟩
      rw [← hpre] at HU HN
      have hlen : pre.length + R.length ≤ 1000000000 := by
        have e := congrArg List.length HN.out
        simp at e
        omega
      clear hpre
      go_wp2_with fail
      refine (rnums1_any wr.heap.size _ H2 _ (alloc_at _ _) R HRR).mono ?_
      clear c0 c1
      rintro e w2 ⟨v2, rfl, hown, hb2⟩
      have HBN := hide (below_news hb2)
      have HON := hide (own_base hown (B := wr.heap.size) (by simp))
      clear hown hb2
      go_wp2_with (at_builtin; refine wpList_append_rows rfl _ _ 26 rfl B 5 i0 (.int .u8 0) 1 1 Try.underlying26 hi hz0 hz1 hz2 rfl (by decide) _ _ _ rfl (HU.out.row HBN.out) wr.heap.size _ R.length (bts R) rfl HON.out (bts_cell R) (by unfold maxLen; omega) (by omega) (Nat.le_trans HU.out.size HBN.out.size) ?_; intro v' w3 hown' hgrow; have HU3 : Hid (BAt B W0 (pre ++ R) v' w3) := HU.out.next HBN.out hown' hgrow; obtain ⟨c0, c1⟩ := md_cells (HU3.out.kp.blk _ _ _ _ HMD.out (by decide) (by decide)); clear hown' hgrow)
      clear HBN HON HU c0 c1
      generalize pre ++ R = pre2 at *
      generalize wr.heap.size = NN at *
      go_loopw [4, 43] (fun v i wr => ∃ k : Nat, k ≤ m.units.length ∧ i = .int .i64 k ∧ BAt B W0 (pre2 ++ (m.units.take k).flatMap Im.unb) v wr) (fun _ i _ => m.units.length - (intOf i).toNat)
      case atStart => exact ⟨0, Nat.zero_le _, rfl, by simpa using HU3.out⟩
      case round =>
        obtain ⟨k, hk, rfl, hC⟩ := hrel
        have HC := hide hC
        clear hC HU3
        by_cases hlt : k < m.units.length
        · obtain ⟨u, hu⟩ : ∃ u, m.units[k]? = some u := ⟨_, List.getElem?_eq_getElem hlt⟩
          obtain ⟨b, off, al, cl, ac, cc, he, _, hun, c0, c1, c2, c3, c4, c5⟩ := HIN.out.units.kp HC.out.kp k u hu
          have HX := hide hu
          have hloc := hfl.out u (List.mem_of_getElem? hu)
          obtain ⟨hn1, hn2, hn3, hn4⟩ := hun.nums
          obtain ⟨hf1, hf2⟩ := hun.few
          have H3 : Hid (I64 u.kind ∧ I64 u.params ∧ I64 (u.locals.length : Int)) := ⟨hn1, hn2, by omega, by omega⟩
          have H4 : Hid (I64 u.result ∧ I64 u.takes ∧ I64 (u.code.length : Int)) := ⟨hn3, hn4, by omega, by omega⟩
          obtain ⟨ys, hys⟩ : ∃ ys, ys = pre2 ++ (m.units.take k).flatMap Im.unb := ⟨_, rfl⟩
          have HU : Hid (BAt B W0 ys u4 wr) := by rw [hys]; exact HC.out
          have hlenU : ys.length + (Im.unb u).length ≤ 1000000000 := by
            have e := congrArg List.length HN.out
            rw [flat_take Im.unb HX.out] at e
            rw [hys]
            simp at e ⊢
            omega
          have HYS : Hid (pre2 ++ (m.units.take (k + 1)).flatMap Im.unb = ys ++ Im.unb u) := by
            unfold Hid; rw [flat_next Im.unb HX.out, hys]; simp only [List.append_assoc]
          clear hys HC hn1 hn2 hn3 hn4
          obtain ⟨A1, hA1⟩ : ∃ A, A = Im.nums [u.kind, u.params, (u.locals.length : Int)] := ⟨_, rfl⟩
          obtain ⟨L1, hL1⟩ : ∃ L, L = Im.nums u.locals := ⟨_, rfl⟩
          obtain ⟨R1, hR1⟩ : ∃ R, R = Im.nums [u.result, u.takes, (u.code.length : Int)] := ⟨_, rfl⟩
          have HUB : Hid (Im.unb u = A1 ++ L1 ++ R1 ++ u.code.flatMap Im.inb) := by unfold Hid; rw [hA1, hL1, hR1]; rfl
          have hlen1 : ys.length + A1.length + L1.length + R1.length + (u.code.flatMap Im.inb).length ≤ 1000000000 := by
            have e := congrArg List.length HUB.out
            simp only [List.length_append] at e
            omega
          have HA1 := hide hA1
          have HL1 := hide hL1
          have HR1 := hide hR1
          clear hA1 hL1 hR1 hu hlenU
          subst he
          obtain ⟨W1, hW1⟩ : ∃ W1, W1 = wr.alloc (unO u al ac cl cc) := ⟨_, rfl⟩
          have HV : Hid (BAt B W1 ys u4 W1) := by rw [hW1]; exact HU.out.rebase _
          have HUO : Hid (W1.heap[wr.heap.size]? = some (unO u al ac cl cc)) := by rw [hW1]; exact heap_alloc_new wr _
          have HUN : Hid (UnIn B W1 u al ac) := by rw [hW1]; exact hun.kp ((Kp.refl B wr).alloc HU.out.size _)
          have HS1 : Hid (W1.heap.size = wr.heap.size + 1) := by unfold Hid; rw [hW1]; simp
          have HBK : Hid (∀ zs uu W2, BAt B W1 zs uu W2 → BAt B W0 zs uu W2) := fun zs uu W2 h => by rw [hW1] at h; exact HU.out.back h
          have HW1 := hide hW1
          clear hW1 hun HU
          go_wp2_with fail
          rw [← HW1.out]
          refine (rnums3_any (wr.heap.size + 1) _ _ _ H3 _ (by rw [← HS1.out]; exact alloc_at _ _) A1 HA1).mono ?_
          clear c0 c1 c2 c3 c4 c5
          rintro e w2 ⟨v2, rfl, hown, hb2⟩
          have HBN := hide (below_news hb2)
          have HON := hide (own_base hown (B := W1.heap.size) (by simp))
          clear hown hb2
          have hle2 : (ys ++ A1).length + L1.length ≤ 1000000000 := by simp only [List.length_append]; omega
          go_wp2_with (at_builtin; refine wpList_append_rows rfl _ _ 26 rfl B 5 i0 (.int .u8 0) 1 1 Try.underlying26 hi hz0 hz1 hz2 rfl (by decide) _ _ _ rfl (HV.out.row HBN.out) W1.heap.size _ A1.length (bts A1) rfl HON.out (bts_cell A1) (by unfold maxLen; omega) (by omega) (Nat.le_trans HV.out.size HBN.out.size) ?_; intro v3 w3 hown' hgrow; have HV2 : Hid (BAt B W1 (ys ++ A1) v3 w3) := HV.out.next HBN.out hown' hgrow; obtain ⟨c0, c1, c2, c3, c4, c5⟩ := un_cells (HV2.out.kp.blk _ _ _ _ HUO.out (by decide) (by decide)); clear hown' hgrow)
          clear HBN HON HV
          refine (rnums_any u.locals al cl _ (hide (ints_up (HUN.out.locals.kp HV2.out.kp) HV2.out.size)) (by omega) L1 HL1).mono ?_
          clear c0 c1 c2 c3 c4 c5
          rintro e w4 ⟨v4, rfl, hown, hb2⟩
          have HBN := hide hb2
          have HON := hide hown
          clear hown hb2
          have hle3 : (ys ++ A1 ++ L1).length + R1.length ≤ 1000000000 := by simp only [List.length_append]; omega
          go_wp2_with (at_builtin; refine wpList_append_rows rfl _ _ 26 rfl B 5 i0 (.int .u8 0) 1 1 Try.underlying26 hi hz0 hz1 hz2 rfl (by decide) _ _ _ rfl (HV2.out.row HBN.out) w3.heap.size _ L1.length (bts L1) rfl HON.out (bts_cell L1) (by unfold maxLen; omega) (by omega) (Nat.le_trans HV2.out.size HBN.out.size) ?_; intro v5 w5 hown' hgrow; have HV3 : Hid (BAt B W1 (ys ++ A1 ++ L1) v5 w5) := HV2.out.next HBN.out hown' hgrow; obtain ⟨c0, c1, c2, c3, c4, c5⟩ := un_cells (HV3.out.kp.blk _ _ _ _ HUO.out (by decide) (by decide)); clear hown' hgrow)
          clear HBN HON HV2
          refine (rnums3_any w5.heap.size _ _ _ H4 _ (alloc_at _ _) R1 HR1).mono ?_
          clear c0 c1 c2 c3 c4 c5
          rintro e w6 ⟨v6, rfl, hown, hb2⟩
          have HBN := hide (below_news hb2)
          have HON := hide (own_base hown (B := w5.heap.size) (by simp))
          clear hown hb2
          go_wp2_with (at_builtin; refine wpList_append_rows rfl _ _ 26 rfl B 5 i0 (.int .u8 0) 1 1 Try.underlying26 hi hz0 hz1 hz2 rfl (by decide) _ _ _ rfl (HV3.out.row HBN.out) w5.heap.size _ R1.length (bts R1) rfl HON.out (bts_cell R1) (by unfold maxLen; omega) (by omega) (Nat.le_trans HV3.out.size HBN.out.size) ?_; intro v7 w7 hown' hgrow; have HV4 : Hid (BAt B W1 (ys ++ A1 ++ L1 ++ R1) v7 w7) := HV3.out.next HBN.out hown' hgrow; obtain ⟨c0, c1, c2, c3, c4, c5⟩ := un_cells (HV4.out.kp.blk _ _ _ _ HUO.out (by decide) (by decide)); clear hown' hgrow)
          clear HBN HON HV3
          have hle4 : (ys ++ A1 ++ L1 ++ R1).length + (u.code.flatMap Im.inb).length ≤ 1000000000 := by simp only [List.length_append]; omega
          have HEND : Hid (ys ++ A1 ++ L1 ++ R1 ++ u.code.flatMap Im.inb = ys ++ Im.unb u) := by unfold Hid; rw [HUB.out]; simp only [List.append_assoc]
          generalize ys ++ A1 ++ L1 ++ R1 = pre3 at *
          clear c0 c1 c2 c3 c4 c5
          generalize wr.heap.size = NM at *
          go_loopw [4, 77] (fun v i wr => ∃ j : Nat, j ≤ u.code.length ∧ i = .int .i64 j ∧ BAt B W1 (pre3 ++ (u.code.take j).flatMap Im.inb) v wr) (fun _ i _ => u.code.length - (intOf i).toNat)
          case atStart => exact ⟨0, Nat.zero_le _, rfl, by simpa using HV4.out⟩
          case round =>
            obtain ⟨j, hj, rfl, hC⟩ := hrel
            have HC := hide hC
            clear hC HV4
            by_cases hjl : j < u.code.length
            · obtain ⟨x, hx⟩ : ∃ x, u.code[j]? = some x := ⟨_, List.getElem?_eq_getElem hjl⟩
              obtain ⟨g1, g2, g3, b', off', he, _, c0, c1, c2⟩ := HUN.out.code.kp HC.out.kp j x hx
              have HX2 := hide hx
              have H5 : Hid (I64 x.op ∧ I64 x.a) := ⟨g1, g2⟩
              obtain ⟨zs, hzs⟩ : ∃ zs, zs = pre3 ++ (u.code.take j).flatMap Im.inb := ⟨_, rfl⟩
              have HU : Hid (BAt B W1 zs u4 wr) := by rw [hzs]; exact HC.out
              obtain ⟨P, hP⟩ : ∃ P, P = Im.nums [x.op, x.a] := ⟨_, rfl⟩
              obtain ⟨Q, hQ⟩ : ∃ Q, Q = Im.num x.n := ⟨_, rfl⟩
              have hlen5 : zs.length + P.length + Q.length ≤ 1000000000 := by
                have e := flat_take Im.inb HX2.out
                have e' := congrArg List.length e
                simp only [List.length_append, Im.inb] at e'
                rw [hzs, hP, hQ]
                simp only [List.length_append]
                omega
              have HYS2 : Hid (pre3 ++ (u.code.take (j + 1)).flatMap Im.inb = zs ++ P ++ Q) := by
                unfold Hid; rw [flat_next Im.inb HX2.out, hzs, hP, hQ]; simp only [Im.inb, List.append_assoc]
              have HP := hide hP
              have HQ := hide hQ
              have hlenz : (zs ++ P).length + Q.length ≤ 1000000000 := by simp only [List.length_append]; omega
              clear hzs HC hP hQ hx g1 g2
              subst he
              have HS2 := HU.out.size
              have G3 := hide g3
              clear g3
              go_wp2
              go_region_held3 (fun w' => w'.cell? ⟨wr.heap.size, 0, none⟩ = some (.int .i64 x.op) ∧ w'.cell? ⟨wr.heap.size, 1, none⟩ = some (.int .i64 x.a) ∧ w'.cell? ⟨wr.heap.size, 2, none⟩ = some (.int .i64 x.n)) (go_keep) (first | (refine step_append_rows rfl (.tmp 88) (.tmp 91) 26 rfl B 5 i0 (.int .u8 0) 1 1 Try.underlying26 hi hz0 hz1 hz2 rfl (by decide) _ (zs ++ P).length (bts (zs ++ P)) rfl (HV3.out.row HB4.out) w3.heap.size _ Q.length (bts Q) rfl HO4.out (bts_cell Q) (by unfold maxLen; omega) (by omega) (Nat.le_trans HV3.out.size HB4.out.size) ?_; intro v5 w5 hown5 hg5; have HV5 : Hid (BAt B W1 (zs ++ P ++ Q) v5 w5) := HV3.out.next HB4.out hown5 hg5; obtain ⟨z0, z1, z2⟩ := ins_cells ((hg5.block _ (lt_of_block HZ4.out) (fun e => own_ty (HV3.out.row HB4.out) HZ4.out (by decide) e.symm)).trans HZ4.out); clear hown5 hg5) | (have hx1 := HV3.out; go_at_call 19; refine (rNum_any x.n G3.out _ Q HQ).mono ?_; rintro e w4 ⟨v4, rfl, hown4, hb4⟩; have HB4 : Hid (Below w3.heap.size w3 w4) := hb4; have HO4 := hide hown4; have HZ4 : Hid (w4.heap[wr.heap.size]? = some (.cells #[.int .i64 x.op, .int .i64 x.a, .int .i64 x.n] 54 (0, 0))) := (hb4.block _ (lt_of_block HZ3.out)).trans HZ3.out; obtain ⟨z0, z1, z2⟩ := ins_cells HZ4.out; clear hown4 hb4 hx1) | (refine step_append_rows rfl (.tmp 81) (.tmp 87) 26 rfl B 5 i0 (.int .u8 0) 1 1 Try.underlying26 hi hz0 hz1 hz2 rfl (by decide) _ zs.length (bts zs) rfl (HU.out.row HBN.out) wr.heap.size _ P.length (bts P) rfl HON.out (bts_cell P) (by unfold maxLen; omega) (by omega) (Nat.le_trans HU.out.size HBN.out.size) ?_; intro v3 w3 hown3 hg3; have HV3 : Hid (BAt B W1 (zs ++ P) v3 w3) := HU.out.next HBN.out hown3 hg3; have HZ3 : Hid (w3.heap[wr.heap.size]? = some (.cells #[.int .i64 x.op, .int .i64 x.a, .int .i64 x.n] 54 (0, 0))) := (hg3.block _ (lt_of_block HZ2.out) (fun e => own_ty (HU.out.row HBN.out) HZ2.out (by decide) e.symm)).trans HZ2.out; obtain ⟨z0, z1, z2⟩ := ins_cells HZ3.out; clear hown3 hg3) | (go_at_call 18; refine (rnums2_any (wr.heap.size + 1) x.op x.a H5 _ (alloc_at2d _ _ _) P HP).mono ?_; rintro e w2 ⟨v2, rfl, hown2, hb2⟩; have HBN : Hid (Below wr.heap.size wr w2) := below_n1 hb2; have HON := hide (own_base hown2 (B := wr.heap.size) (by simp; omega)); have HZ2 : Hid (w2.heap[wr.heap.size]? = some (.cells #[.int .i64 x.op, .int .i64 x.a, .int .i64 x.n] 54 (0, 0))) := (hb2.block _ (by simp; omega)).trans (alloc_at1d _ _ _); obtain ⟨z0, z1, z2⟩ := ins_cells HZ2.out; clear hown2 hb2))
              have HV6 : Hid (BAt B W1 (pre3 ++ (u.code.take (j + 1)).flatMap Im.inb) v5 w5) := by rw [HYS2.out]; exact HV5.out
              clear HV5 HZ4 HZ3 HZ2 HV3 HB4 HO4 HBN HON HU
              go_wp2
              go_roundw
              case rel => exact ⟨j + 1, by omega, by go_num, HV6.out⟩
              case measure => simp [intOf]; omega
            · obtain rfl : j = u.code.length := by omega
              have HV6 : Hid (BAt B W0 (pre2 ++ (m.units.take (k + 1)).flatMap Im.unb) u4 wr) := by
                have := HC.out
                rw [List.take_length, HEND.out, ← HYS.out] at this
                exact HBK.out _ _ _ this
              clear HC
              go_wp2
              go_roundw
              case rel => exact ⟨k + 1, by omega, by go_num, HV6.out⟩
              case measure => simp [intOf]; omega
        · obtain rfl : k = m.units.length := by omega
          have HU : Hid (BAt B W0 nb u4 wr) := by have := HC.out; rw [List.take_length, ← HN.out] at this; exact this
          have HLT : Hid (∀ c ∈ nb, c < 256) := by rw [HNB.out]; exact Im.body_lt m
          have hown := HU.out.own
          obtain ⟨av, cv, hv, hbin⟩ := own_bin hown HLT.out
          have HBI := hide hbin
          obtain ⟨s, hs⟩ : ∃ s, s = Im.sum nb := ⟨_, rfl⟩
          have hs16 : s < 65536 := by rw [hs]; exact Im.sum_lt nb
          have HS := hide hs
          have e1 : IntKind.u8.wrap ((s : Int) / 256) = ((s / 256 : Nat) : Int) := by rw [wrap_u8]; omega
          have e2 : IntKind.u8.wrap ((s : Int) % 256) = ((s % 256 : Nat) : Int) := by rw [wrap_u8]; omega
          have HSE : Hid (Im.sealed nb = nb ++ [s / 256, s % 256]) := by unfold Hid; rw [hs]; rfl
          obtain ⟨hi', hhi⟩ : ∃ h, h = s / 256 := ⟨_, rfl⟩
          obtain ⟨lo, hlo⟩ : ∃ h, h = s % 256 := ⟨_, rfl⟩
          rw [← hhi, ← hlo] at HSE
          rw [← hhi] at e1
          rw [← hlo] at e2
          have HO : Hid ((out, er) = if nb.length ≤ 59998 then (Im.sealed nb, 0) else ([], 4)) := by have := hout.out; unfold Im.bytes at this; rw [← HNB.out] at this; exact this.symm
          have HBw : Hid (Below B w wr) := HB0.out.trans HU.out.kp.below
          have hszr := HU.out.size
          clear hs hbin hown hhi hlo hout HC HN
          subst hv
          go_wp2_with fail
          refine (rsum_any nb av cv (by omega) _ HBI s HS).mono ?_
          rintro e w3 ⟨rfl, rfl⟩
          have hbi : (nb.length : Int) ≤ 1000000000 := by omega
          clear hl1 hl2 hbd
          by_cases hf : nb.length ≤ 59998
          · have hO := HO.out
            rw [if_pos hf] at hO
            obtain ⟨rfl, rfl⟩ := Prod.mk.inj hO
            obtain ⟨LL, hL⟩ : ∃ LL, LL = nb.length + 2 := ⟨_, rfl⟩
            have e5 : ¬ (60000 : Int) < (LL : Int) := by omega
            have HL := hide hL
            clear HO hO hf hL
            go_wp2_with (at_builtin; refine wpList_append_own _ rfl _ _ 26 rfl B 5 i0 (.int .u8 0) 1 1 Try.underlying26 hi hz0 hz1 hz2 rfl (by decide) (.slice av nb.length cv) nb.length (bts nb) rfl (HU.out.own.alloc _) ⟨w3.heap.size, 0, none⟩ 2 2 [.int .u8 hi', .int .u8 lo] rfl rfl (two_news _ _ _ _) (two_cellu _ _) (by unfold maxLen; omega) (by omega) (by simp; omega) ?_; intro v' w4 hown' hgrow _; obtain ⟨a4, c4, hv4⟩ := own_form hown'; rw [← HL.out] at hv4 hown'; subst hv4; have HO4 := hide hown'; clear hown'; have HB4 : Hid (Below B w w4) := (HBw.out.alloc (by omega) _).grown hgrow (by simp; omega) (fun j hj => (HU.out.own.lt j hj).1))
            have HE : Hid (w4.ownsRow B 5 1 (.slice a4 LL c4) (Im.sealed nb).length (bts (Im.sealed nb))) := by
              unfold Hid
              have e9 : (Im.sealed nb).length = LL := by rw [HSE.out, HL.out]; simp
              rw [e9, HSE.out]
              simpa [bts] using HO4.out
            clear hgrow
            go_wp2
            refine bodyPost_ret (v := .tuple #[.slice a4 LL c4, .int .i64 0]) (by simp [results, Try.results7, go_sem]) rfl ?_
            exact ⟨_, rfl, by rw [← HBB.out]; exact HE.out, by rw [← HBB.out]; exact HB4.out⟩
          · have hO := HO.out
            rw [if_neg hf] at hO
            obtain ⟨rfl, rfl⟩ := Prod.mk.inj hO
            obtain ⟨LL, hL⟩ : ∃ LL, LL = nb.length + 2 := ⟨_, rfl⟩
            have e5 : (60000 : Int) < (LL : Int) := by omega
            have HL := hide hL
            clear HO hO hf hL
            go_wp2_with (at_builtin; refine wpList_append_own _ rfl _ _ 26 rfl B 5 i0 (.int .u8 0) 1 1 Try.underlying26 hi hz0 hz1 hz2 rfl (by decide) (.slice av nb.length cv) nb.length (bts nb) rfl (HU.out.own.alloc _) ⟨w3.heap.size, 0, none⟩ 2 2 [.int .u8 hi', .int .u8 lo] rfl rfl (two_news _ _ _ _) (two_cellu _ _) (by unfold maxLen; omega) (by omega) (by simp; omega) ?_; intro v' w4 hown' hgrow _; obtain ⟨a4, c4, hv4⟩ := own_form hown'; rw [← HL.out] at hv4 hown'; subst hv4; have HO4 := hide hown'; clear hown'; have HB4 : Hid (Below B w w4) := (HBw.out.alloc (by omega) _).grown hgrow (by simp; omega) (fun j hj => (HU.out.own.lt j hj).1))
            clear hgrow
            go_wp2
            refine bodyPost_ret (v := .tuple #[.slice none 0 0, .int .i64 4]) (by simp [results, Try.results7, go_sem]) rfl ?_
            exact ⟨_, rfl, World.ownsRow_nil _ _ _ _, by rw [← HBB.out]; exact HB4.out⟩

end Go.Proofs.Ytnfkfgpnojdfoaa
