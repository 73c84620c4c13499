/- The walk of the printer's pair. -/
import Derived.Test.YtbbklahhnepiaaaDoorPt4
namespace Go.Proofs.YtbbklahhnepiaaaDoor
open Go.RowKit

abbrev prO (kk : Int) (sg : ByteArray) (L : Int) : Obj := .cells #[.int .i64 kk, .string sg, .int .i64 L] 59 (0, 0)

theorem same_drew (B : Nat) (w : World) : Go.Proofs.YtbbklahhnepiaaaDoor.Same B w w.drew := fun _ _ _ => rfl

/-- What the walk knows in the midst of pair. -/
def PMid (P Bs : Nat) (mv : Value) (ws : List ByteArray) (o : Obj) (w w1 : World) : Prop := PR w1 P Bs ws mv ∧ Fr P Bs w w1 ∧ w1.heap[w.heap.size]? = some o


set_option maxRecDepth 100000 in
set_option maxHeartbeats 1000000 in
theorem pair_of (B M P Bs d : Nat) (hL : Lay B M P Bs) (hE : Hid (ExP B M P Bs d)) (h : Nat) (x0 x1 : Sy.Ex) (kids : List Sy.Ex) (a : Option Addr) (c : Nat) (kk : Int) (sg : ByteArray) (L : Int) (ws : List ByteArray) (w : World)
    (hk0 : Hid (kids[0]? = some x0)) (hk1 : Hid (kids[1]? = some x1)) (hl2 : 2 ≤ kids.length) (hL0 : 0 < L) (hL5 : L ≤ 5)
    (hok0 : Hid (Sy.ExOk d x0)) (hok1 : Hid (Sy.ExOk d x1)) (hX : Hid (KidsIn B w h kids a)) (hPR : Hid (PR w P Bs ws (.map (some M)))) (hM : Hid (MpT w M)) (hBs : Bs ≤ w.heap.size) (o : List ByteArray)
    (ho : Hid (o = Sy.brT (Sy.exT d) (if L = 3 then 4 else L) x0 ++ [sg] ++ Sy.brT (Sy.exT d) (L + 1) x1)) (hn : ws.length + o.length ≤ 1000000) :
    Calls Tryd.prog 69 #[.pointer (some ⟨P, 0, none⟩), .agg #[.int .i64 kk, .string sg, .int .i64 L], .slice a kids.length c] w fun e w' => Puts P Bs (.map (some M)) ws o w e w' := by
  have HLay := hL
  obtain ⟨hbp, hpb, hmb, hmp, hgp⟩ := hL
  have hlen := hX.out.1
  unfold maxLen at hlen
  have HG0 : Hid (w.grownBy (w.alloc (prO kk sg L)) none) := World.grownBy_alloc _ _ _
  have HX0 : Hid (KidsIn B (w.alloc (prO kk sg L)) h kids a) := hX.out.same (same_grown HG0.out (by simp) (by omega))
  obtain ⟨b, off, a0, c0', rfl, hb, q0, q1, q2, q3, hin0⟩ := HX0.out.2 0 x0 hk0.out
  simp only [Nat.zero_mul, Nat.add_zero] at q0 q1 q2 q3
  obtain ⟨left, hleft⟩ : ∃ left : Int, left = if L = 3 then 4 else L := ⟨_, rfl⟩
  have HLf : Hid (left = if L = 3 then 4 else L) := hleft
  obtain ⟨B0, hB0⟩ : ∃ B0, B0 = Sy.brT (Sy.exT d) left x0 := ⟨_, rfl⟩
  obtain ⟨B1, hB1⟩ : ∃ B1, B1 = Sy.brT (Sy.exT d) (L + 1) x1 := ⟨_, rfl⟩
  have HO : Hid (o = B0 ++ [sg] ++ B1) := by rw [ho.out, ← hleft, ← hB0, ← hB1]; rfl
  have hno : ws.length + (B0.length + (B1.length + 1)) ≤ 1000000 := by rw [HO.out] at hn; simp at hn; omega
  have HB0 : Hid (B0 = Sy.brT (Sy.exT d) left x0) := hB0
  have HB1 : Hid (B1 = Sy.brT (Sy.exT d) (L + 1) x1) := hB1
  have HIn0 : Hid (ExIn B (w.alloc (prO kk sg L)) h x0 a0) := hin0
  have hsz0 : Bs ≤ (w.alloc (prO kk sg L)).heap.size := by simp; omega
  have hbr0 := bracketed_of B M P Bs d HLay hE h x0 a0 c0' left ws (w.alloc (prO kk sg L)) hok0 HIn0 (hPR.out.grown HG0.out) (hM.out.grown HG0.out) hsz0 (by rw [← hB0]; omega)
  rw [← hB0] at hbr0
  clear hin0 hB0 hB1 hn hleft
  by_cases h3 : L = 3
  · have hl4 : left = L + 1 := by rw [HLf.out, if_pos h3]; omega
    have e3 : (L == 3) = true := by simp [h3]
    rw [hl4] at hbr0 HB0
    clear h3 HLf hl4
    go_enter Tryd.func69, Tryd.ntmps69
    go_wp2_with fail
    refine hbr0.mono ?_
    rintro e w1 hp
    have HP1 : Hid (PR w1 P Bs (ws ++ B0) (.map (some M))) := hp.2.1
    have HF1 : Hid (Fr P Bs w w1) := (Fr.alloc P Bs w _).trans hp.2.2
    have HBx : Hid (w1.heap[w.heap.size]? = some (prO kk sg L)) := box_fr (heap_alloc_new w _) (by decide) (by have := hPR.out.lt; omega) hp.2.2
    have hs1 : Bs ≤ w1.heap.size := by have := HF1.out.size; omega
    obtain rfl := hp.1
    obtain ⟨t0, t1, t2⟩ := three_cell HBx.out
    clear hp q0 q1 q2 q3 hbr0
    go_upto_region 5 with fail
    go_cut [] (fun wx => PMid P Bs (.map (some M)) (ws ++ B0 ++ [sg]) (prO kk sg L) w wx)
    case first =>
      go_region_with (go_at_call 19; refine (put_litD P Bs (ws ++ B0) [sg] _ 1 w1.heap.size w1 rfl HP1 hpb hs1 (by simp; omega)).mono ?_; rintro e w2 hp; have HP : Hid (PMid P Bs (.map (some M)) (ws ++ B0 ++ [sg]) (prO kk sg L) w w2) := ⟨hp.2.1, HF1.out.trans hp.2.2, box_fr HBx.out (by decide) (by have := hPR.out.lt; omega) hp.2.2⟩; obtain rfl := hp.1; clear hp)
      all_goals
        go_wp2_with fail
        go_meet
        exact Hid.out (by assumption)
    case rest =>
      have HC : Hid (PMid P Bs (.map (some M)) (ws ++ B0 ++ [sg]) (prO kk sg L) w wc) := hcut
      clear hcut t0 t1 t2
      obtain ⟨t0, t1, t2⟩ := three_cell HC.out.2.2
      have hs2 : Bs ≤ wc.heap.size := by have := HC.out.2.1.size; omega
      obtain ⟨b', off', a1, c1', hab, hb', q0, q1, q2, q3, hin1⟩ := (hX.out.same (HC.out.2.1.same hbp hpb (by omega))).2 1 x1 hk1.out
      simp only [Option.some.injEq, Addr.mk.injEq, and_true] at hab
      obtain ⟨rfl, rfl⟩ := hab
      simp only [Nat.one_mul, Nat.add_assoc, Nat.reduceAdd] at q0 q1 q2 q3
      have HIn1 : Hid (ExIn B wc h x1 a1) := hin1
      have hbr1 := bracketed_of B M P Bs d HLay hE h x1 a1 c1' (L + 1) (ws ++ B0 ++ [sg]) wc.drew hok1 (HIn1.out.same (same_drew B wc)) HC.out.1 (show MpT wc M from hM.out.fr HC.out.2.1 hmb hmp hgp hpb) hs2 (by rw [← HB1.out]; simp; omega)
      rw [← HB1.out] at hbr1
      have HFin : Hid (∀ e w2, Puts P Bs (.map (some M)) (ws ++ B0 ++ [sg]) B1 wc.drew e w2 → Puts P Bs (.map (some M)) ws o w e w2) := fun e w2 hp => ⟨hp.1, by rw [HO.out]; have := hp.2.1; simpa using this, HC.out.2.1.drew.trans hp.2.2⟩
      clear hin1
      have wL : IntKind.i64.wrap (L + 1) = L + 1 := IntWalk.i64_in _ ⟨by omega, by omega⟩
      go_upto_region 6 with fail
      go_region_with (go_at_call 71; (try rw [wL]); refine hbr1.mono ?_; rintro e w2 hp; have HP : Hid (Puts P Bs (.map (some M)) ws o w e w2) := HFin.out e w2 hp; obtain rfl := hp.1; clear hp)
      all_goals
        go_wp2
        go_end0
        exact Hid.out (by assumption)
  · have hl4 : left = L := by rw [HLf.out, if_neg h3]
    have e3 : (L == 3) = false := by simp [h3]
    rw [hl4] at hbr0 HB0
    clear h3 HLf hl4
    go_enter Tryd.func69, Tryd.ntmps69
    go_wp2_with fail
    refine hbr0.mono ?_
    rintro e w1 hp
    have HP1 : Hid (PR w1 P Bs (ws ++ B0) (.map (some M))) := hp.2.1
    have HF1 : Hid (Fr P Bs w w1) := (Fr.alloc P Bs w _).trans hp.2.2
    have HBx : Hid (w1.heap[w.heap.size]? = some (prO kk sg L)) := box_fr (heap_alloc_new w _) (by decide) (by have := hPR.out.lt; omega) hp.2.2
    have hs1 : Bs ≤ w1.heap.size := by have := HF1.out.size; omega
    obtain rfl := hp.1
    obtain ⟨t0, t1, t2⟩ := three_cell HBx.out
    clear hp q0 q1 q2 q3 hbr0
    go_upto_region 5 with fail
    go_cut [] (fun wx => PMid P Bs (.map (some M)) (ws ++ B0 ++ [sg]) (prO kk sg L) w wx)
    case first =>
      go_region_with (go_at_call 19; refine (put_litD P Bs (ws ++ B0) [sg] _ 1 w1.heap.size w1 rfl HP1 hpb hs1 (by simp; omega)).mono ?_; rintro e w2 hp; have HP : Hid (PMid P Bs (.map (some M)) (ws ++ B0 ++ [sg]) (prO kk sg L) w w2) := ⟨hp.2.1, HF1.out.trans hp.2.2, box_fr HBx.out (by decide) (by have := hPR.out.lt; omega) hp.2.2⟩; obtain rfl := hp.1; clear hp)
      all_goals
        go_wp2_with fail
        go_meet
        exact Hid.out (by assumption)
    case rest =>
      have HC : Hid (PMid P Bs (.map (some M)) (ws ++ B0 ++ [sg]) (prO kk sg L) w wc) := hcut
      clear hcut t0 t1 t2
      obtain ⟨t0, t1, t2⟩ := three_cell HC.out.2.2
      have hs2 : Bs ≤ wc.heap.size := by have := HC.out.2.1.size; omega
      obtain ⟨b', off', a1, c1', hab, hb', q0, q1, q2, q3, hin1⟩ := (hX.out.same (HC.out.2.1.same hbp hpb (by omega))).2 1 x1 hk1.out
      simp only [Option.some.injEq, Addr.mk.injEq, and_true] at hab
      obtain ⟨rfl, rfl⟩ := hab
      simp only [Nat.one_mul, Nat.add_assoc, Nat.reduceAdd] at q0 q1 q2 q3
      have HIn1 : Hid (ExIn B wc h x1 a1) := hin1
      have hbr1 := bracketed_of B M P Bs d HLay hE h x1 a1 c1' (L + 1) (ws ++ B0 ++ [sg]) wc.drew hok1 (HIn1.out.same (same_drew B wc)) HC.out.1 (show MpT wc M from hM.out.fr HC.out.2.1 hmb hmp hgp hpb) hs2 (by rw [← HB1.out]; simp; omega)
      rw [← HB1.out] at hbr1
      have HFin : Hid (∀ e w2, Puts P Bs (.map (some M)) (ws ++ B0 ++ [sg]) B1 wc.drew e w2 → Puts P Bs (.map (some M)) ws o w e w2) := fun e w2 hp => ⟨hp.1, by rw [HO.out]; have := hp.2.1; simpa using this, HC.out.2.1.drew.trans hp.2.2⟩
      clear hin1
      have wL : IntKind.i64.wrap (L + 1) = L + 1 := IntWalk.i64_in _ ⟨by omega, by omega⟩
      go_upto_region 6 with fail
      go_region_with (go_at_call 71; (try rw [wL]); refine hbr1.mono ?_; rintro e w2 hp; have HP : Hid (Puts P Bs (.map (some M)) ws o w e w2) := HFin.out e w2 hp; obtain rfl := hp.1; clear hp)
      all_goals
        go_wp2
        go_end0
        exact Hid.out (by assumption)

end Go.Proofs.YtbbklahhnepiaaaDoor
