/- The walk of the printer's calling. -/
import Derived.Test.YtlnikpcoejpknaaGreatDoorM38
namespace Go.Proofs.YtlnikpcoejpknaaGreatDoor
open Go.RowKit

/-- Kids lie at a. -/
def KidsIn (B : Nat) (w : World) (h : Nat) (kids : List Sy.Ex) (a : Option Addr) : Prop :=
  kids.length ≤ maxLen ∧ ∀ i k, kids[i]? = some k → ∃ b off a' c', a = some ⟨b, off, none⟩ ∧ b < B ∧
      w.cell? ⟨b, off + i * 4, none⟩ = some (.int .i64 k.kind) ∧ w.cell? ⟨b, off + i * 4 + 1, none⟩ = some (.int .i64 k.n) ∧ w.cell? ⟨b, off + i * 4 + 2, none⟩ = some (.string k.name) ∧
      w.cell? ⟨b, off + i * 4 + 3, none⟩ = some (.slice a' k.kids.length c') ∧ ExIn B w h k a'

theorem ExIn.kidsIn {B : Nat} {w : World} {h : Nat} {x : Sy.Ex} {a : Option Addr} (hx : ExIn B w (h + 1) x a) : KidsIn B w h x.kids a := hx.2

theorem KidsIn.same {B : Nat} {w w' : World} (hs : Go.Proofs.YtlnikpcoejpknaaGreatDoor.Same B w w') {h : Nat} {kids : List Sy.Ex} {a : Option Addr} (hk : KidsIn B w h kids a) : KidsIn B w' h kids a :=
  ⟨hk.1, fun i k hi => by
    obtain ⟨b, off, a', c', ha, hb, c0, c1, c2, c3, hin⟩ := hk.2 i k hi
    exact ⟨b, off, a', c', ha, hb, (hs _ _ hb).trans c0, (hs _ _ hb).trans c1, (hs _ _ hb).trans c2, (hs _ _ hb).trans c3, hin.same hs⟩⟩

theorem listT_at {α : Type} {f : α → List ByteArray} {l : List α} {k : Nat} {x : α} (h : l[k]? = some x) : Sy.listT f k (l.drop k) = (if 0 < k then [⟨#[44]⟩] else []) ++ f x ++ Sy.listT f (k + 1) (l.drop (k + 1)) := by
  obtain ⟨hk, rfl⟩ := List.getElem?_eq_some_iff.1 h
  rw [List.drop_eq_getElem_cons hk]
  rfl

set_option maxRecDepth 100000 in
set_option maxHeartbeats 2000000 in
theorem calling_of (B M P Bs d : Nat) (hL : Lay B M P Bs) (hE : Hid (ExP B M P Bs d)) (h : Nat) (kids : List Sy.Ex) (a : Option Addr) (c : Nat) (xs : List ByteArray) (ad : Addr) (c2 : Nat) (ws : List ByteArray) (w : World)
    (hok : Hid (∀ k ∈ kids, Sy.ExOk d k)) (hX : Hid (KidsIn B w h kids a)) (hPR : Hid (PR w P Bs ws (.map (some M)))) (hM : Hid (MpT w M)) (hBs : Bs ≤ w.heap.size)
    (hx : Hid (∀ j x, xs[j]? = some x → w.cell? (ad.add j) = some (.string x))) (hn : ws.length + (Sy.callT (Sy.exT d) xs kids).length ≤ 1000000) :
    Calls Tryz.prog 140 #[.pointer (some ⟨P, 0, none⟩), .slice a kids.length c, .slice (some ad) xs.length c2] w fun e w' => Puts P Bs (.map (some M)) ws (Sy.callT (Sy.exT d) xs kids) w e w' := by
  obtain ⟨hbp, hpb, hmb, hmp, hgp⟩ := hL
  have hlen := hX.out.1
  unfold maxLen at hlen
  obtain ⟨o, ho⟩ : ∃ o, o = Sy.callT (Sy.exT d) xs kids := ⟨_, rfl⟩
  have hn' : ws.length + (xs.length + ((Sy.listT (Sy.exT d) 0 kids).length + 2)) ≤ 1000000 := by unfold Sy.callT at hn; simp at hn; omega
  rw [← ho]
  have HO : Hid (o = xs ++ [⟨#[40]⟩] ++ Sy.listT (Sy.exT d) 0 kids ++ [⟨#[41]⟩]) := ho
  clear ho hn
  have HT : Hid (∃ T, T = Sy.listT (Sy.exT d) 0 kids) := ⟨_, rfl⟩
  go_enter Tryz.func140, Tryz.ntmps140
  go_wp2_with fail
  refine (put_any P Bs ws xs _ ad c2 w hPR hpb hBs hx (by omega)).mono ?_
  rintro e w1 ⟨rfl, hp1, hf1⟩
  have HP1 : Hid (PR w1 P Bs (ws ++ xs) (.map (some M))) := hp1
  have HF1 : Hid (Fr P Bs w w1) := hf1
  have hs1 : Bs ≤ w1.heap.size := by have := hf1.size; omega
  clear hp1 hf1
  go_wp2_with fail
  refine (put_lit P Bs (ws ++ xs) [⟨#[40]⟩] _ 1 w1.heap.size w1 rfl HP1 hpb hs1 (by simp; omega)).mono ?_
  rintro e w2 ⟨rfl, hp2, hf2⟩
  have HP2 : Hid (PR w2 P Bs (ws ++ xs ++ [⟨#[40]⟩] ++ []) (.map (some M))) := by rw [List.append_nil]; exact hp2
  have HF2 : Hid (Fr P Bs w w2) := HF1.out.trans hf2
  clear hp2 hf2
  go_wp2
  go_loopw [20] (fun i wr => ∃ (k : Nat) (done : List ByteArray), k ≤ kids.length ∧ i = .int .i64 k ∧ Hid (PR wr P Bs (ws ++ xs ++ [⟨#[40]⟩] ++ done) (.map (some M))) ∧ Hid (Fr P Bs w wr) ∧ Hid (done ++ Sy.listT (Sy.exT d) k (kids.drop k) = Sy.listT (Sy.exT d) 0 kids)) (fun i _ => kids.length - (intOf i).toNat)
  case atStart => exact ⟨0, [], Nat.zero_le _, rfl, HP2, HF2, by rw [List.drop_zero]; rfl⟩
  case round =>
    obtain ⟨k, done, hk, rfl, HPr, HFr, HDr⟩ := hrel
    have hsr : Bs ≤ wr.heap.size := by have := HFr.out.size; omega
    by_cases hlt : k < kids.length
    · obtain ⟨x, hxk⟩ : ∃ x, kids[k]? = some x := ⟨_, List.getElem?_eq_getElem hlt⟩
      have hokx := hok.out x (List.mem_of_getElem? hxk)
      have HOk : Hid (Sy.ExOk d x) := hokx
      obtain ⟨b, off, a', c', rfl, hb, q0, q1, q2, q3, hin⟩ := (hX.out.same (HFr.out.same hbp hpb (by omega))).2 k x hxk
      have HIn : Hid (ExIn B wr h x a') := hin
      have hD2 := HDr.out
      rw [listT_at hxk] at hD2
      obtain ⟨cm, hcm⟩ : ∃ cm, cm = (if 0 < k then [(⟨#[44]⟩ : ByteArray)] else []) := ⟨_, rfl⟩
      rw [← hcm] at hD2
      have hcl : cm.length ≤ 1 := by rw [hcm]; split <;> simp
      have hlenD := congrArg List.length hD2
      simp only [List.length_append] at hlenD
      have HD2 : Hid (done ++ (cm ++ Sy.exT d x ++ Sy.listT (Sy.exT d) (k + 1) (kids.drop (k + 1))) = Sy.listT (Sy.exT d) 0 kids) := hD2
      have HCm : Hid (cm = (if 0 < k then [(⟨#[44]⟩ : ByteArray)] else [])) := hcm
      have hcomma := comma_any P Bs (ws ++ xs ++ [(⟨#[40]⟩ : ByteArray)] ++ done) (.map (some M)) k (wr.alloc (exOC x a' c')) (HPr.out.alloc _) hpb (by simp; omega) (by simp only [List.length_append, List.length_cons, List.length_nil]; omega)
      rw [← hcm] at hcomma
      obtain ⟨bx1, hbx1⟩ : ∃ bx1 : Nat, bx1 = (Sy.exT d x).length := ⟨_, rfl⟩
      rw [← hbx1] at hlenD
      have HL1 : Hid (bx1 = (Sy.exT d x).length) := hbx1
      clear hokx hin hD2 hcm hbx1
      have hxk' : Hid (kids[k]? = some x) := hxk
      clear hxk
      go_wp2_with fail
      refine hcomma.mono ?_
      rintro e w3 hp
      have HP3 : Hid (PR w3 P Bs (ws ++ xs ++ [⟨#[40]⟩] ++ done ++ cm) (.map (some M))) := hp.2.1
      have HFx : Hid (Fr P Bs wr w3) := (Fr.alloc P Bs wr _).trans hp.2.2
      have HF3 : Hid (Fr P Bs w w3) := HFr.out.trans HFx.out
      have HBx : Hid (w3.heap[wr.heap.size]? = some (exOC x a' c')) := box_fr (heap_alloc_new wr _) (by decide) (by have := HPr.out.lt; omega) hp.2.2
      have hs3 : Bs ≤ w3.heap.size := by have := HF3.out.size; omega
      obtain rfl := hp.1
      obtain ⟨b0, b1, b2, b3⟩ := four_cellC HBx.out
      clear hp q0 q1 q2 q3 hcomma
      go_wp2_with fail
      refine (hE.out h x a' c' (ws ++ xs ++ [⟨#[40]⟩] ++ done ++ cm) _ HOk.out (HIn.out.same (HFx.out.same hbp hpb (by omega))) HP3 (hM.out.fr HF3.out hmb hmp hgp hpb) hs3 (by simp only [List.length_append, List.length_cons, List.length_nil]; have := HL1.out; omega)).mono ?_
      rintro e w4 hp
      have HP4 : Hid (PR w4 P Bs (ws ++ xs ++ [⟨#[40]⟩] ++ (done ++ cm ++ Sy.exT d x)) (.map (some M))) := by have := hp.2.1; unfold Hid; simpa using this
      have HF4 : Hid (Fr P Bs w w4) := HF3.out.trans hp.2.2
      have HD4 : Hid (done ++ cm ++ Sy.exT d x ++ Sy.listT (Sy.exT d) (k + 1) (kids.drop (k + 1)) = Sy.listT (Sy.exT d) 0 kids) := by rw [← HD2.out]; unfold Hid; simp only [List.append_assoc]
      obtain rfl := hp.1
      clear hp b0 b1 b2 b3
      go_wp2
      go_roundw
      case rel => exact ⟨k + 1, done ++ cm ++ Sy.exT d x, by omega, by go_num, HP4, HF4, HD4⟩
      case measure => simp [intOf]; omega
    · have HDn : Hid (done = Sy.listT (Sy.exT d) 0 kids) := by
        have := HDr.out
        rw [List.drop_of_length_le (by omega)] at this
        unfold Hid; simpa [Sy.listT] using this
      have hld := congrArg List.length HDn.out
      go_wp2_with fail
      refine (put_lit P Bs (ws ++ xs ++ [⟨#[40]⟩] ++ done) [⟨#[41]⟩] _ 1 wr.heap.size wr rfl HPr hpb hsr (by simp only [List.length_append, List.length_cons, List.length_nil]; omega)).mono ?_
      rintro e w4 hp
      have HP4 : Hid (Puts P Bs (.map (some M)) ws o w e w4) := ⟨hp.1, by rw [HO.out, ← HDn.out]; have := hp.2.1; simpa using this, HFr.out.trans hp.2.2⟩
      obtain rfl := hp.1
      clear hp
      go_wp2
      go_end0
      exact HP4.out

end Go.Proofs.YtlnikpcoejpknaaGreatDoor

/- The walk of the printer's pair. -/
namespace Go.Proofs.YtlnikpcoejpknaaGreatDoor
open Go.RowKit

abbrev prO (kk : Int) (sg : ByteArray) (L : Int) : Obj := .cells #[.int .i64 kk, .string sg, .int .i64 L] 87 (0, 0)

theorem same_drew (B : Nat) (w : World) : Go.Proofs.YtlnikpcoejpknaaGreatDoor.Same B w w.drew := fun _ _ _ => rfl

/-- What the walk knows in the midst of pair. -/
def PMid (P Bs : Nat) (mv : Value) (ws : List ByteArray) (o : Obj) (w w1 : World) : Prop := PR w1 P Bs ws mv ∧ Fr P Bs w w1 ∧ w1.heap[w.heap.size]? = some o


set_option maxRecDepth 100000 in
set_option maxHeartbeats 1000000 in
theorem pair_of (B M P Bs d : Nat) (hL : Lay B M P Bs) (hE : Hid (ExP B M P Bs d)) (h : Nat) (x0 x1 : Sy.Ex) (kids : List Sy.Ex) (a : Option Addr) (c : Nat) (kk : Int) (sg : ByteArray) (L : Int) (ws : List ByteArray) (w : World)
    (hk0 : Hid (kids[0]? = some x0)) (hk1 : Hid (kids[1]? = some x1)) (hl2 : 2 ≤ kids.length) (hL0 : 0 < L) (hL5 : L ≤ 5)
    (hok0 : Hid (Sy.ExOk d x0)) (hok1 : Hid (Sy.ExOk d x1)) (hX : Hid (KidsIn B w h kids a)) (hPR : Hid (PR w P Bs ws (.map (some M)))) (hM : Hid (MpT w M)) (hBs : Bs ≤ w.heap.size) (o : List ByteArray)
    (ho : Hid (o = Sy.brT (Sy.exT d) (if L = 3 then 4 else L) x0 ++ [sg] ++ Sy.brT (Sy.exT d) (L + 1) x1)) (hn : ws.length + o.length ≤ 1000000) :
    Calls Tryz.prog 136 #[.pointer (some ⟨P, 0, none⟩), .agg #[.int .i64 kk, .string sg, .int .i64 L], .slice a kids.length c] w fun e w' => Puts P Bs (.map (some M)) ws o w e w' := by
  have HLay := hL
  obtain ⟨hbp, hpb, hmb, hmp, hgp⟩ := hL
  have hlen := hX.out.1
  unfold maxLen at hlen
  have HG0 : Hid (w.grownBy (w.alloc (prO kk sg L)) none) := World.grownBy_alloc _ _ _
  have HX0 : Hid (KidsIn B (w.alloc (prO kk sg L)) h kids a) := hX.out.same (same_grown HG0.out (by simp) (by omega))
  obtain ⟨b, off, a0, c0', rfl, hb, q0, q1, q2, q3, hin0⟩ := HX0.out.2 0 x0 hk0.out
  simp only [Nat.zero_mul, Nat.add_zero] at q0 q1 q2 q3
  obtain ⟨left, hleft⟩ : ∃ left : Int, left = if L = 3 then 4 else L := ⟨_, rfl⟩
  have HLf : Hid (left = if L = 3 then 4 else L) := hleft
  obtain ⟨B0, hB0⟩ : ∃ B0, B0 = Sy.brT (Sy.exT d) left x0 := ⟨_, rfl⟩
  obtain ⟨B1, hB1⟩ : ∃ B1, B1 = Sy.brT (Sy.exT d) (L + 1) x1 := ⟨_, rfl⟩
  have HO : Hid (o = B0 ++ [sg] ++ B1) := by rw [ho.out, ← hleft, ← hB0, ← hB1]; rfl
  have hno : ws.length + (B0.length + (B1.length + 1)) ≤ 1000000 := by rw [HO.out] at hn; simp at hn; omega
  have HB0 : Hid (B0 = Sy.brT (Sy.exT d) left x0) := hB0
  have HB1 : Hid (B1 = Sy.brT (Sy.exT d) (L + 1) x1) := hB1
  have HIn0 : Hid (ExIn B (w.alloc (prO kk sg L)) h x0 a0) := hin0
  have hsz0 : Bs ≤ (w.alloc (prO kk sg L)).heap.size := by simp; omega
  have hbr0 := bracketed_of B M P Bs d HLay hE h x0 a0 c0' left ws (w.alloc (prO kk sg L)) hok0 HIn0 (hPR.out.grown HG0.out) (hM.out.grown HG0.out) hsz0 (by rw [← hB0]; omega)
  rw [← hB0] at hbr0
  clear hin0 hB0 hB1 hn hleft
  by_cases h3 : L = 3
  · have hl4 : left = L + 1 := by rw [HLf.out, if_pos h3]; omega
    have e3 : (L == 3) = true := by simp [h3]
    rw [hl4] at hbr0 HB0
    clear h3 HLf hl4
    go_enter Tryz.func136, Tryz.ntmps136
    go_wp2_with fail
    refine hbr0.mono ?_
    rintro e w1 hp
    have HP1 : Hid (PR w1 P Bs (ws ++ B0) (.map (some M))) := hp.2.1
    have HF1 : Hid (Fr P Bs w w1) := (Fr.alloc P Bs w _).trans hp.2.2
    have HBx : Hid (w1.heap[w.heap.size]? = some (prO kk sg L)) := box_fr (heap_alloc_new w _) (by decide) (by have := hPR.out.lt; omega) hp.2.2
    have hs1 : Bs ≤ w1.heap.size := by have := HF1.out.size; omega
    obtain rfl := hp.1
    obtain ⟨t0, t1, t2⟩ := three_cell HBx.out
    clear hp q0 q1 q2 q3 hbr0
    go_upto_region 5 with fail
    go_cut [] (fun wx => PMid P Bs (.map (some M)) (ws ++ B0 ++ [sg]) (prO kk sg L) w wx)
    case first =>
      go_region_with (go_at_call 49; refine (put_litD P Bs (ws ++ B0) [sg] _ 1 w1.heap.size w1 rfl HP1 hpb hs1 (by simp; omega)).mono ?_; rintro e w2 hp; have HP : Hid (PMid P Bs (.map (some M)) (ws ++ B0 ++ [sg]) (prO kk sg L) w w2) := ⟨hp.2.1, HF1.out.trans hp.2.2, box_fr HBx.out (by decide) (by have := hPR.out.lt; omega) hp.2.2⟩; obtain rfl := hp.1; clear hp)
      all_goals
        go_wp2_with fail
        go_meet
        exact Hid.out (by assumption)
    case rest =>
      have HC : Hid (PMid P Bs (.map (some M)) (ws ++ B0 ++ [sg]) (prO kk sg L) w wc) := hcut
      clear hcut t0 t1 t2
      obtain ⟨t0, t1, t2⟩ := three_cell HC.out.2.2
      have hs2 : Bs ≤ wc.heap.size := by have := HC.out.2.1.size; omega
      obtain ⟨b', off', a1, c1', hab, hb', q0, q1, q2, q3, hin1⟩ := (hX.out.same (HC.out.2.1.same hbp hpb (by omega))).2 1 x1 hk1.out
      simp only [Option.some.injEq, Addr.mk.injEq, and_true] at hab
      obtain ⟨rfl, rfl⟩ := hab
      simp only [Nat.one_mul, Nat.add_assoc, Nat.reduceAdd] at q0 q1 q2 q3
      have HIn1 : Hid (ExIn B wc h x1 a1) := hin1
      have hbr1 := bracketed_of B M P Bs d HLay hE h x1 a1 c1' (L + 1) (ws ++ B0 ++ [sg]) wc.drew hok1 (HIn1.out.same (same_drew B wc)) HC.out.1 (show MpT wc M from hM.out.fr HC.out.2.1 hmb hmp hgp hpb) hs2 (by rw [← HB1.out]; simp; omega)
      rw [← HB1.out] at hbr1
      have HFin : Hid (∀ e w2, Puts P Bs (.map (some M)) (ws ++ B0 ++ [sg]) B1 wc.drew e w2 → Puts P Bs (.map (some M)) ws o w e w2) := fun e w2 hp => ⟨hp.1, by rw [HO.out]; have := hp.2.1; simpa using this, HC.out.2.1.drew.trans hp.2.2⟩
      clear hin1
      have wL : IntKind.i64.wrap (L + 1) = L + 1 := IntWalk.i64_in _ ⟨by omega, by omega⟩
      go_upto_region 6 with fail
      go_region_with (go_at_call 139; (try rw [wL]); refine hbr1.mono ?_; rintro e w2 hp; have HP : Hid (Puts P Bs (.map (some M)) ws o w e w2) := HFin.out e w2 hp; obtain rfl := hp.1; clear hp)
      all_goals
        go_wp2
        go_end0
        exact Hid.out (by assumption)
  · have hl4 : left = L := by rw [HLf.out, if_neg h3]
    have e3 : (L == 3) = false := by simp [h3]
    rw [hl4] at hbr0 HB0
    clear h3 HLf hl4
    go_enter Tryz.func136, Tryz.ntmps136
    go_wp2_with fail
    refine hbr0.mono ?_
    rintro e w1 hp
    have HP1 : Hid (PR w1 P Bs (ws ++ B0) (.map (some M))) := hp.2.1
    have HF1 : Hid (Fr P Bs w w1) := (Fr.alloc P Bs w _).trans hp.2.2
    have HBx : Hid (w1.heap[w.heap.size]? = some (prO kk sg L)) := box_fr (heap_alloc_new w _) (by decide) (by have := hPR.out.lt; omega) hp.2.2
    have hs1 : Bs ≤ w1.heap.size := by have := HF1.out.size; omega
    obtain rfl := hp.1
    obtain ⟨t0, t1, t2⟩ := three_cell HBx.out
    clear hp q0 q1 q2 q3 hbr0
    go_upto_region 5 with fail
    go_cut [] (fun wx => PMid P Bs (.map (some M)) (ws ++ B0 ++ [sg]) (prO kk sg L) w wx)
    case first =>
      go_region_with (go_at_call 49; refine (put_litD P Bs (ws ++ B0) [sg] _ 1 w1.heap.size w1 rfl HP1 hpb hs1 (by simp; omega)).mono ?_; rintro e w2 hp; have HP : Hid (PMid P Bs (.map (some M)) (ws ++ B0 ++ [sg]) (prO kk sg L) w w2) := ⟨hp.2.1, HF1.out.trans hp.2.2, box_fr HBx.out (by decide) (by have := hPR.out.lt; omega) hp.2.2⟩; obtain rfl := hp.1; clear hp)
      all_goals
        go_wp2_with fail
        go_meet
        exact Hid.out (by assumption)
    case rest =>
      have HC : Hid (PMid P Bs (.map (some M)) (ws ++ B0 ++ [sg]) (prO kk sg L) w wc) := hcut
      clear hcut t0 t1 t2
      obtain ⟨t0, t1, t2⟩ := three_cell HC.out.2.2
      have hs2 : Bs ≤ wc.heap.size := by have := HC.out.2.1.size; omega
      obtain ⟨b', off', a1, c1', hab, hb', q0, q1, q2, q3, hin1⟩ := (hX.out.same (HC.out.2.1.same hbp hpb (by omega))).2 1 x1 hk1.out
      simp only [Option.some.injEq, Addr.mk.injEq, and_true] at hab
      obtain ⟨rfl, rfl⟩ := hab
      simp only [Nat.one_mul, Nat.add_assoc, Nat.reduceAdd] at q0 q1 q2 q3
      have HIn1 : Hid (ExIn B wc h x1 a1) := hin1
      have hbr1 := bracketed_of B M P Bs d HLay hE h x1 a1 c1' (L + 1) (ws ++ B0 ++ [sg]) wc.drew hok1 (HIn1.out.same (same_drew B wc)) HC.out.1 (show MpT wc M from hM.out.fr HC.out.2.1 hmb hmp hgp hpb) hs2 (by rw [← HB1.out]; simp; omega)
      rw [← HB1.out] at hbr1
      have HFin : Hid (∀ e w2, Puts P Bs (.map (some M)) (ws ++ B0 ++ [sg]) B1 wc.drew e w2 → Puts P Bs (.map (some M)) ws o w e w2) := fun e w2 hp => ⟨hp.1, by rw [HO.out]; have := hp.2.1; simpa using this, HC.out.2.1.drew.trans hp.2.2⟩
      clear hin1
      have wL : IntKind.i64.wrap (L + 1) = L + 1 := IntWalk.i64_in _ ⟨by omega, by omega⟩
      go_upto_region 6 with fail
      go_region_with (go_at_call 139; (try rw [wL]); refine hbr1.mono ?_; rintro e w2 hp; have HP : Hid (Puts P Bs (.map (some M)) ws o w e w2) := HFin.out e w2 hp; obtain rfl := hp.1; clear hp)
      all_goals
        go_wp2
        go_end0
        exact Hid.out (by assumption)

end Go.Proofs.YtlnikpcoejpknaaGreatDoor

/- The walk of the printer's expr. -/
namespace Go.Proofs.YtlnikpcoejpknaaGreatDoor
open Go.RowKit

/-- What the walk knows behind the look into the map. -/
def EMid (B M P Bs h : Nat) (ws : List ByteArray) (x : Sy.Ex) (a : Option Addr) (c : Nat) (kk : Int) (sg : ByteArray) (L : Int) (w w1 : World) : Prop :=
  PR w1 P Bs ws (.map (some M)) ∧ Fr P Bs w w1 ∧ w1.heap[w.heap.size]? = some (exOC x a c) ∧ w1.heap[w.heap.size + 1]? = some (prO kk sg L) ∧ MpT w1 M ∧ ExIn B w1 (h + 1) x a

theorem emid_mk {B M P Bs h : Nat} {ws : List ByteArray} {x : Sy.Ex} {a : Option Addr} {c : Nat} (kk : Int) (sg : ByteArray) (L : Int) {w : World} (hX : ExIn B w (h + 1) x a) (hPR : PR w P Bs ws (.map (some M))) (hM : MpT w M) (hB : B ≤ w.heap.size) :
    EMid B M P Bs h ws x a c kk sg L w ((w.alloc (exOC x a c)).alloc (prO kk sg L)).drew := by
  have hg : w.grownBy ((w.alloc (exOC x a c)).alloc (prO kk sg L)) none := grown_trans (World.grownBy_alloc _ _ _) (World.grownBy_alloc _ _ _)
  refine ⟨(hPR.grown hg).drew, (Fr.below ⟨hg.os, hg.tape, hg.output, hg.size, fun k hk => hg.block k hk (by simp)⟩).drew, ?_, ?_, (show MpT ((w.alloc (exOC x a c)).alloc (prO kk sg L)) M from hM.grown hg), (hX.same (same_grown hg (by simp) hB)).same (same_drew B _)⟩
  · show ((w.alloc (exOC x a c)).alloc (prO kk sg L)).heap[w.heap.size]? = _
    rw [Below.heap_alloc _ _ _ (by simp)]; exact heap_alloc_new w _
  · show ((w.alloc (exOC x a c)).alloc (prO kk sg L)).heap[w.heap.size + 1]? = _
    have := heap_alloc_new (w.alloc (exOC x a c)) (prO kk sg L)
    simpa using this

theorem lev_zero {k : Int} (h : ¬ 0 < Sy.lev k) : Sy.lev k = 0 := by
  unfold Sy.lev at h ⊢
  split at h
  · omega
  · split at h
    · omega
    · split at h
      · omega
      · split at h
        · omega
        · split at h
          · omega
          · simp only [*, if_false]
theorem kinds_of_lev {k : Int} (h1 : 1 ≤ k) (h2 : k ≤ 24) (h : Sy.lev k = 0) : k = 1 ∨ k = 2 ∨ k = 3 ∨ k = 4 ∨ k = 5 ∨ k = 19 ∨ k = 20 ∨ k = 21 ∨ k = 22 ∨ k = 23 ∨ k = 24 := by
  unfold Sy.lev at h
  split at h
  · omega
  · split at h
    · omega
    · split at h
      · omega
      · split at h
        · omega
        · split at h
          · omega
          · omega

theorem lit_cellsC (xs : List ByteArray) (w : World) : ∀ j x, xs[j]? = some x → (w.alloc (.cells (xs.map Value.string).toArray 9)).cell? ((⟨w.heap.size, 0, none⟩ : Addr).add j) = some (.string x) := by
  intro j x hx
  have : (⟨w.heap.size, 0, none⟩ : Addr).add j = ⟨w.heap.size, j, none⟩ := by unfold Addr.add; split <;> simp_all
  rw [this, World.cell?_alloc_mark]
  simp [hx]

theorem exT_1 {d : Nat} {x : Sy.Ex} (hk : x.kind = 1) : Sy.exT (d + 1) x = [Sy.numT x.n] := by
  conv => lhs; unfold Sy.exT
  rw [if_neg (show ¬ 0 < Sy.lev x.kind by rw [hk]; decide), if_pos hk]
theorem exT_2 {d : Nat} {x : Sy.Ex} (hk : x.kind = 2) : Sy.exT (d + 1) x = [Sy.truthT x.n] := by
  conv => lhs; unfold Sy.exT
  rw [if_neg (show ¬ 0 < Sy.lev x.kind by rw [hk]; decide), if_neg (show ¬ x.kind = 1 by omega), if_pos hk]
theorem exT_3 {d : Nat} {x : Sy.Ex} (hk : x.kind = 3) : Sy.exT (d + 1) x = [x.name] := by
  conv => lhs; unfold Sy.exT
  rw [if_neg (show ¬ 0 < Sy.lev x.kind by rw [hk]; decide), if_neg (show ¬ x.kind = 1 by omega), if_neg (show ¬ x.kind = 2 by omega), if_pos hk]
theorem exT_4 {d : Nat} {x : Sy.Ex} (hk : x.kind = 4) : Sy.exT (d + 1) x = [⟨#[45]⟩] ++ Sy.brT (Sy.exT d) 6 (x.kids.headD ⟨0, 0, ⟨#[]⟩, []⟩) := by
  conv => lhs; unfold Sy.exT
  rw [if_neg (show ¬ 0 < Sy.lev x.kind by rw [hk]; decide), if_neg (show ¬ x.kind = 1 by omega), if_neg (show ¬ x.kind = 2 by omega), if_neg (show ¬ x.kind = 3 by omega), if_pos hk]
theorem exT_5 {d : Nat} {x : Sy.Ex} (hk : x.kind = 5) : Sy.exT (d + 1) x = [⟨#[110, 111, 116]⟩] ++ Sy.brT (Sy.exT d) 6 (x.kids.headD ⟨0, 0, ⟨#[]⟩, []⟩) := by
  conv => lhs; unfold Sy.exT
  rw [if_neg (show ¬ 0 < Sy.lev x.kind by rw [hk]; decide), if_neg (show ¬ x.kind = 1 by omega), if_neg (show ¬ x.kind = 2 by omega), if_neg (show ¬ x.kind = 3 by omega), if_neg (show ¬ x.kind = 4 by omega), if_pos hk]
theorem exT_19 {d : Nat} {x : Sy.Ex} (hk : x.kind = 19) : Sy.exT (d + 1) x = Sy.callT (Sy.exT d) [x.name] x.kids := by
  conv => lhs; unfold Sy.exT
  rw [if_neg (show ¬ 0 < Sy.lev x.kind by rw [hk]; decide), if_neg (show ¬ x.kind = 1 by omega), if_neg (show ¬ x.kind = 2 by omega), if_neg (show ¬ x.kind = 3 by omega), if_neg (show ¬ x.kind = 4 by omega), if_neg (show ¬ x.kind = 5 by omega), if_pos hk]
theorem exT_20 {d : Nat} {x : Sy.Ex} (hk : x.kind = 20) : Sy.exT (d + 1) x = [⟨#[114, 101, 99, 118]⟩, ⟨#[40]⟩, x.name, ⟨#[41]⟩] := by
  conv => lhs; unfold Sy.exT
  rw [if_neg (show ¬ 0 < Sy.lev x.kind by rw [hk]; decide), if_neg (show ¬ x.kind = 1 by omega), if_neg (show ¬ x.kind = 2 by omega), if_neg (show ¬ x.kind = 3 by omega), if_neg (show ¬ x.kind = 4 by omega), if_neg (show ¬ x.kind = 5 by omega), if_neg (show ¬ x.kind = 19 by omega), if_pos hk]
theorem exT_21 {d : Nat} {x : Sy.Ex} (hk : x.kind = 21) : Sy.exT (d + 1) x = Sy.callT (Sy.exT d) [⟨#[121, 105, 101, 108, 100]⟩] x.kids := by
  conv => lhs; unfold Sy.exT
  rw [if_neg (show ¬ 0 < Sy.lev x.kind by rw [hk]; decide), if_neg (show ¬ x.kind = 1 by omega), if_neg (show ¬ x.kind = 2 by omega), if_neg (show ¬ x.kind = 3 by omega), if_neg (show ¬ x.kind = 4 by omega), if_neg (show ¬ x.kind = 5 by omega), if_neg (show ¬ x.kind = 19 by omega), if_neg (show ¬ x.kind = 20 by omega), if_pos hk]
theorem exT_22 {d : Nat} {x : Sy.Ex} (hk : x.kind = 22) : Sy.exT (d + 1) x = Sy.callT (Sy.exT d) [⟨#[115, 116, 97, 114, 116]⟩, x.name] x.kids := by
  conv => lhs; unfold Sy.exT
  rw [if_neg (show ¬ 0 < Sy.lev x.kind by rw [hk]; decide), if_neg (show ¬ x.kind = 1 by omega), if_neg (show ¬ x.kind = 2 by omega), if_neg (show ¬ x.kind = 3 by omega), if_neg (show ¬ x.kind = 4 by omega), if_neg (show ¬ x.kind = 5 by omega), if_neg (show ¬ x.kind = 19 by omega), if_neg (show ¬ x.kind = 20 by omega), if_neg (show ¬ x.kind = 21 by omega), if_pos hk]
theorem exT_23 {d : Nat} {x : Sy.Ex} (hk : x.kind = 23) : Sy.exT (d + 1) x = Sy.callT (Sy.exT d) [⟨#[114, 101, 115, 117, 109, 101]⟩] x.kids := by
  conv => lhs; unfold Sy.exT
  rw [if_neg (show ¬ 0 < Sy.lev x.kind by rw [hk]; decide), if_neg (show ¬ x.kind = 1 by omega), if_neg (show ¬ x.kind = 2 by omega), if_neg (show ¬ x.kind = 3 by omega), if_neg (show ¬ x.kind = 4 by omega), if_neg (show ¬ x.kind = 5 by omega), if_neg (show ¬ x.kind = 19 by omega), if_neg (show ¬ x.kind = 20 by omega), if_neg (show ¬ x.kind = 21 by omega), if_neg (show ¬ x.kind = 22 by omega), if_pos hk]
theorem exT_24 {d : Nat} {x : Sy.Ex} (hk : x.kind = 24) : Sy.exT (d + 1) x = Sy.callT (Sy.exT d) [⟨#[97, 108, 105, 118, 101]⟩] x.kids := by
  conv => lhs; unfold Sy.exT
  rw [if_neg (show ¬ 0 < Sy.lev x.kind by rw [hk]; decide), if_neg (show ¬ x.kind = 1 by omega), if_neg (show ¬ x.kind = 2 by omega), if_neg (show ¬ x.kind = 3 by omega), if_neg (show ¬ x.kind = 4 by omega), if_neg (show ¬ x.kind = 5 by omega), if_neg (show ¬ x.kind = 19 by omega), if_neg (show ¬ x.kind = 20 by omega), if_neg (show ¬ x.kind = 21 by omega), if_neg (show ¬ x.kind = 22 by omega), if_neg (show ¬ x.kind = 23 by omega)]
theorem headD_of {α : Type} {l : List α} {x0 y : α} (h : l[0]? = some x0) : l.headD y = x0 := by
  cases l with
  | nil => simp at h
  | cons a l => simp at h; subst h; rfl
theorem exT_pair {d : Nat} {x x0 x1 : Sy.Ex} (hl : 0 < Sy.lev x.kind) (h0 : x.kids[0]? = some x0) (h1 : x.kids[1]? = some x1) :
    Sy.exT (d + 1) x = Sy.brT (Sy.exT d) (if Sy.lev x.kind = 3 then 4 else Sy.lev x.kind) x0 ++ [Sy.sign x.kind] ++ Sy.brT (Sy.exT d) (Sy.lev x.kind + 1) x1 := by
  conv => lhs; unfold Sy.exT
  rw [if_pos hl]
  cases hk : x.kids with
  | nil => rw [hk] at h0; simp at h0
  | cons a l =>
    cases l with
    | nil => rw [hk] at h1; simp at h1
    | cons b l =>
      rw [hk] at h0 h1
      simp at h0 h1
      subst h0 h1
      rfl

theorem least_pair {k : Int} (h : 0 < Sy.lev k) : Sy.least k = 2 ∧ Sy.lev k ≤ 5 := by
  have hk : 6 ≤ k ∧ k ≤ 18 := by unfold Sy.lev at h; repeat' split at h
                                 all_goals omega
  refine ⟨?_, ?_⟩
  · unfold Sy.least; repeat' split
    all_goals omega
  · unfold Sy.lev; repeat' split
    all_goals omega

theorem below_grow (w : World) (k : Nat) (os : Array Obj) : Below w.heap.size w (Go.Sort.grow (w.drewN k) os) :=
  ⟨rfl, rfl, rfl, by show w.heap.size ≤ (w.heap ++ os).size; simp, fun i hi => by show (w.heap ++ os)[i]? = _; rw [Array.getElem?_append_left hi]⟩

theorem fmt_any (n : Int) (h0 : 0 ≤ n) (h1 : n ≤ 999999999999999) (w : World) (htab : Lib.TabIs Tryz.prog w "internal/strconv.uint64pow10" .u64 Lib.pow10Tab) :
    Calls Tryz.prog 137 #[.int .i64 n, .int .i64 10] w fun e w' => e = .returned (.string (Sy.numT n)) ∧ Below w.heap.size w w' :=
  (Tryz.strconv_FormatInt_10 n (by omega) (by omega) w htab).mono (by rintro e w' ⟨he, k, os, rfl⟩; exact ⟨he, below_grow w k os⟩)

theorem num_range {d : Nat} {x : Sy.Ex} (h : Sy.ExOk (d + 1) x) (hk : x.kind = 1) : 0 ≤ x.n ∧ x.n ≤ 999999999999999 := by
  have h0 := h.2.2.1
  rw [exHead_num hk] at h0
  split at h0
  · omega
  · omega

/-- The number of kids is right. -/
theorem kids_right {d : Nat} {x : Sy.Ex} (h : Sy.ExOk (d + 1) x) : Sy.least x.kind ≤ x.kids.length ∧ (x.kids.length : Int) ≤ Sy.most x.kind := by
  have h0 := h.2.2.1
  unfold Sy.exHead at h0
  repeat' split at h0
  all_goals omega

set_option maxRecDepth 100000 in
set_option maxHeartbeats 1000000 in
theorem expr_of (B M P Bs d : Nat) (hL : Lay B M P Bs) (hE : Hid (ExP B M P Bs d)) : ExP B M P Bs (d + 1) := by
  intro h x a c ws w hok hX hPR hM hBs hn
  cases h with
  | zero => exact hX.out.elim
  | succ h =>
  have HOK : Hid (Sy.ExOk (d + 1) x) := hok
  have HLay := hL
  obtain ⟨hbp, hpb, hmb, hmp, hgp⟩ := hL
  obtain ⟨o, ho⟩ : ∃ o, o = Sy.exT (d + 1) x := ⟨_, rfl⟩
  rw [← ho] at hn ⊢
  have HO : Hid (o = Sy.exT (d + 1) x) := ho
  have HG0 : Hid (w.grownBy (w.alloc (exOC x a c)) none) := World.grownBy_alloc _ _ _
  have hlk := run_lookK M x.kind (w.alloc (exOC x a c)).drew (hM.out.grown HG0.out).1
  unfold lookK at hlk
  obtain ⟨kk, hkk⟩ : ∃ kk : Int, kk = (if 0 < Sy.lev x.kind then x.kind else 0) := ⟨_, rfl⟩
  rw [← hkk] at hlk
  have HG1 : Hid (w.grownBy ((w.alloc (exOC x a c)).alloc (prO 0 ⟨#[]⟩ 0)) none) := grown_trans HG0.out (World.grownBy_alloc _ _ _)
  have hlk2 := run_lookK M x.kind ((w.alloc (exOC x a c)).alloc (prO 0 ⟨#[]⟩ 0)).drew (hM.out.grown HG1.out).1
  unfold lookK at hlk2
  rw [← hkk] at hlk2
  obtain ⟨v, hP, hown⟩ := (hPR.out.grown HG0.out)
  obtain ⟨c0, c1, f0, f1⟩ := two_cell hP
  obtain ⟨v2, hP2, hown2⟩ := (hPR.out.grown HG1.out)
  obtain ⟨g0, g1, g2, g3⟩ := two_cell hP2
  clear hok ho hkk hP hown hP2 hown2
  go_enter Tryz.func116, Tryz.ntmps116
  go_upto_region 1 with fail
  go_cut [4] (fun p wx => p = .pointer (some ⟨w.heap.size + 1, 0, none⟩) ∧ EMid B M P Bs h ws x a c kk (Sy.sign x.kind) (Sy.lev x.kind) w wx)
  case first =>
    go_region
    all_goals
      go_wp2_with fail
      go_meet
      exact ⟨rfl, emid_mk _ _ _ hX.out hPR.out hM.out (by omega)⟩
  case rest =>
    obtain ⟨hp4, hmid⟩ := hcut
    subst hp4
    have HC : Hid (EMid B M P Bs h ws x a c kk (Sy.sign x.kind) (Sy.lev x.kind) w wc) := hmid
    obtain ⟨b0, b1, b2, b3⟩ := four_cellC HC.out.2.2.1
    obtain ⟨s0, s1, s2⟩ := three_cell HC.out.2.2.2.1
    have hsc : Bs ≤ wc.heap.size := by have := HC.out.2.1.size; omega
    have hPw : P < w.heap.size := by omega
    have hlenx := HC.out.2.2.2.2.2.2.1
    unfold maxLen at hlenx
    clear hmid hlk hlk2 c0 c1 f0 f1 g0 g1 g2 g3
    have hk1 := HOK.out.1
    have hk2 := HOK.out.2.1
    by_cases hlev : 0 < Sy.lev x.kind
    · obtain ⟨hl2, hL5⟩ := least_pair hlev
      have hlen2 := (kids_right HOK.out).1
      rw [hl2] at hlen2
      obtain ⟨x0, hx0⟩ : ∃ x0, x.kids[0]? = some x0 := ⟨_, List.getElem?_eq_getElem (by omega)⟩
      obtain ⟨x1, hx1⟩ : ∃ x1, x.kids[1]? = some x1 := ⟨_, List.getElem?_eq_getElem (by omega)⟩
      have hpr := pair_of B M P Bs d HLay hE h x0 x1 x.kids a c kk (Sy.sign x.kind) (Sy.lev x.kind) ws wc hx0 hx1 (by omega) hlev hL5 (HOK.out.2.2.2 x0 (List.mem_of_getElem? hx0)) (HOK.out.2.2.2 x1 (List.mem_of_getElem? hx1)) HC.out.2.2.2.2.2.kidsIn HC.out.1 HC.out.2.2.2.2.1 hsc o (HO.out.trans (exT_pair hlev hx0 hx1)) hn
      clear hx0 hx1 hl2 hL5 hlen2 hk1 hk2
      go_wp2_with fail
      refine hpr.mono ?_
      rintro e w2 hp
      have HP : Hid (Puts P Bs (.map (some M)) ws o w e w2) := ⟨hp.1, hp.2.1, HC.out.2.1.trans hp.2.2⟩
      obtain rfl := hp.1
      clear hp b0 b1 b2 b3 s0 s1 s2 hpr
      go_wp2
      refine bodyPost_ret (results_none rfl _ _ _) rfl ?_
      exact HP.out
    · have hlz := lev_zero hlev
      have HLev : Hid (Sy.lev x.kind = 0) := hlz
      rw [hlz] at s2
      clear hlev
      rcases kinds_of_lev hk1 hk2 hlz with hk | hk | hk | hk | hk | hk | hk | hk | hk | hk | hk
      · have e1 : (x.kind == 1) = true := by simp; omega
        have HKd : Hid (x.kind = 1) := hk
        clear hk hlz hk1 hk2
        obtain ⟨hr0, hr1⟩ := num_range HOK.out HKd.out
        have HO2 : Hid (o = [Sy.numT x.n]) := HO.out.trans (exT_1 HKd.out)
        have hno : ws.length + 1 ≤ 1000000 := by rw [HO2.out] at hn; exact hn
        obtain ⟨tn, htn⟩ : ∃ tn, tn = Sy.numT x.n := ⟨_, rfl⟩
        have hfm := fmt_any x.n hr0 hr1 wc.drew HC.out.2.2.2.2.1.2
        rw [← htn] at HO2 hfm
        clear htn
        go_upto_region 6 with fail
        go_region_with (first | (go_at_call 137; refine hfm.mono ?_; rintro e w2 ⟨rfl, hb⟩; have HB2 : Hid (Below wc.heap.size wc w2) := ⟨hb.os, hb.tape, hb.output, hb.size, hb.block⟩; have hs2 : Bs ≤ w2.heap.size := Nat.le_trans hsc HB2.out.size; clear hb) | (go_at_call 49; refine (put_lit P Bs ws [tn] _ 1 w2.heap.size w2 rfl (HC.out.1.grown (grown_of_below HB2.out)) hpb hs2 hno).mono ?_; rintro e w3 hp; have HP : Hid (Puts P Bs (.map (some M)) ws o w e w3) := ⟨hp.1, by rw [HO2.out]; exact hp.2.1, HC.out.2.1.trans ((Fr.below HB2.out).trans hp.2.2)⟩; obtain rfl := hp.1; clear hp))
        all_goals
          go_wp2
          go_end0
          exact Hid.out (by assumption)
      · have e1 : (x.kind == 1) = false := by simp; omega
        have e2 : (x.kind == 2) = true := by simp; omega
        have HKd : Hid (x.kind = 2) := hk
        clear hk hlz hk1 hk2
        have HO2 : Hid (o = [Sy.truthT x.n]) := HO.out.trans (exT_2 HKd.out)
        have hno : ws.length + 1 ≤ 1000000 := by rw [HO2.out] at hn; exact hn
        obtain ⟨tn, htn⟩ : ∃ tn, tn = Sy.truthT x.n := ⟨_, rfl⟩
        have htr : ∀ w : World, Calls Tryz.prog 138 #[.int .i64 x.n] w fun e w1 => e = .returned (.string tn) ∧ w1 = w := by rw [htn]; exact fun w => truth_any x.n w
        rw [← htn] at HO2
        clear htn
        go_upto_region 8 with fail
        go_region_with (first | (go_at_call 138; refine (htr _).mono ?_; rintro e w2 ⟨rfl, rfl⟩) | (go_at_call 49; refine (put_litD P Bs ws [tn] _ 1 wc.heap.size wc rfl HC.out.1 hpb hsc hno).mono ?_; rintro e w2 hp; have HP : Hid (Puts P Bs (.map (some M)) ws o w e w2) := ⟨hp.1, by rw [HO2.out]; exact hp.2.1, HC.out.2.1.trans hp.2.2⟩; obtain rfl := hp.1; clear hp))
        all_goals
          go_wp2
          go_end0
          exact Hid.out (by assumption)
      · have e1 : (x.kind == 1) = false := by simp; omega
        have e2 : (x.kind == 2) = false := by simp; omega
        have e3 : (x.kind == 3) = true := by simp; omega
        have HKd : Hid (x.kind = 3) := hk
        clear hk hlz hk1 hk2
        have HO2 : Hid (o = [x.name]) := HO.out.trans (exT_3 HKd.out)
        have hno : ws.length + 1 ≤ 1000000 := by rw [HO2.out] at hn; exact hn
        go_upto_region 10 with fail
        go_region_with (go_at_call 49; refine (put_litD P Bs ws [x.name] _ 1 wc.heap.size wc rfl HC.out.1 hpb hsc hno).mono ?_; rintro e w2 hp; have HP : Hid (Puts P Bs (.map (some M)) ws o w e w2) := ⟨hp.1, by rw [HO2.out]; exact hp.2.1, HC.out.2.1.trans hp.2.2⟩; obtain rfl := hp.1; clear hp)
        all_goals
          go_wp2
          go_end0
          exact Hid.out (by assumption)
      · have e1 : (x.kind == 1) = false := by simp; omega
        have e2 : (x.kind == 2) = false := by simp; omega
        have e3 : (x.kind == 3) = false := by simp; omega
        have e4 : (x.kind == 4) = true := by simp; omega
        have HKd : Hid (x.kind = 4) := hk
        clear hk hlz hk1 hk2
        obtain ⟨k0, hk0⟩ : ∃ k0, x.kids[0]? = some k0 := ⟨_, List.getElem?_eq_getElem (by have := (kids_right HOK.out).1; rw [HKd.out] at this; simp [Sy.least] at this; omega)⟩
        have hlen1 : 0 < x.kids.length := (List.getElem?_eq_some_iff.1 hk0).1
        have HO2 : Hid (o = [(⟨#[45]⟩ : ByteArray)] ++ Sy.brT (Sy.exT d) 6 k0) := by have := HO.out.trans (exT_4 HKd.out); rw [headD_of hk0] at this; exact this
        obtain ⟨B0, hB0⟩ : ∃ B0, B0 = Sy.brT (Sy.exT d) 6 k0 := ⟨_, rfl⟩
        have HB0 : Hid (B0 = Sy.brT (Sy.exT d) 6 k0) := hB0
        rw [← hB0] at HO2
        have hno : ws.length + (B0.length + 1) ≤ 1000000 := by rw [HO2.out] at hn; simp at hn; omega
        have HK0 : Hid (x.kids[0]? = some k0) := hk0
        have HOK0 : Hid (Sy.ExOk d k0) := HOK.out.2.2.2 k0 (List.mem_of_getElem? hk0)
        clear hB0 hk0
        go_wp2_with fail
        refine (put_lit P Bs ws [(⟨#[45]⟩ : ByteArray)] _ 1 wc.heap.size wc rfl HC.out.1 hpb hsc (by show ws.length + 1 ≤ _; omega)).mono ?_
        rintro e w2 hp
        have HP2 : Hid (PR w2 P Bs (ws ++ [(⟨#[45]⟩ : ByteArray)]) (.map (some M))) := hp.2.1
        have HF2 : Hid (Fr P Bs wc w2) := hp.2.2
        have HBx2 : Hid (w2.heap[w.heap.size]? = some (exOC x a c)) := box_fr HC.out.2.2.1 (by decide) (by omega) hp.2.2
        have hs2 : Bs ≤ w2.heap.size := by have := hp.2.2.size; omega
        obtain rfl := hp.1
        clear hp b0 b1 b2 b3 s0 s1 s2
        obtain ⟨b0, b1, b2, b3⟩ := four_cellC HBx2.out
        obtain ⟨kb, koff, a0, c0', hab, hkb, q0, q1, q2, q3, hin0⟩ := (HC.out.2.2.2.2.2.kidsIn.same (HF2.out.same hbp hpb (by omega))).2 0 k0 HK0.out
        subst hab
        simp only [Nat.zero_mul, Nat.add_zero] at q0 q1 q2 q3
        have hbr := bracketed_of B M P Bs d HLay hE h k0 a0 c0' 6 (ws ++ [(⟨#[45]⟩ : ByteArray)]) w2 HOK0 hin0 HP2 (HC.out.2.2.2.2.1.fr HF2.out hmb hmp hgp hpb) hs2 (by rw [← HB0.out]; simp; omega)
        rw [← HB0.out] at hbr
        clear hin0
        go_wp2_with fail
        refine hbr.mono ?_
        rintro e w3 hp
        have HP : Hid (Puts P Bs (.map (some M)) ws o w e w3) := ⟨hp.1, by rw [HO2.out]; have := hp.2.1; simpa using this, HC.out.2.1.trans (HF2.out.trans hp.2.2)⟩
        obtain rfl := hp.1
        clear hp b0 b1 b2 b3 hbr q0 q1 q2 q3
        go_wp2
        go_end0
        exact HP.out
      · have e1 : (x.kind == 1) = false := by simp; omega
        have e2 : (x.kind == 2) = false := by simp; omega
        have e3 : (x.kind == 3) = false := by simp; omega
        have e4 : (x.kind == 4) = false := by simp; omega
        have e5 : (x.kind == 5) = true := by simp; omega
        have HKd : Hid (x.kind = 5) := hk
        clear hk hlz hk1 hk2
        obtain ⟨k0, hk0⟩ : ∃ k0, x.kids[0]? = some k0 := ⟨_, List.getElem?_eq_getElem (by have := (kids_right HOK.out).1; rw [HKd.out] at this; simp [Sy.least] at this; omega)⟩
        have hlen1 : 0 < x.kids.length := (List.getElem?_eq_some_iff.1 hk0).1
        have HO2 : Hid (o = [(⟨#[110, 111, 116]⟩ : ByteArray)] ++ Sy.brT (Sy.exT d) 6 k0) := by have := HO.out.trans (exT_5 HKd.out); rw [headD_of hk0] at this; exact this
        obtain ⟨B0, hB0⟩ : ∃ B0, B0 = Sy.brT (Sy.exT d) 6 k0 := ⟨_, rfl⟩
        have HB0 : Hid (B0 = Sy.brT (Sy.exT d) 6 k0) := hB0
        rw [← hB0] at HO2
        have hno : ws.length + (B0.length + 1) ≤ 1000000 := by rw [HO2.out] at hn; simp at hn; omega
        have HK0 : Hid (x.kids[0]? = some k0) := hk0
        have HOK0 : Hid (Sy.ExOk d k0) := HOK.out.2.2.2 k0 (List.mem_of_getElem? hk0)
        clear hB0 hk0
        go_wp2_with fail
        refine (put_lit P Bs ws [(⟨#[110, 111, 116]⟩ : ByteArray)] _ 1 wc.heap.size wc rfl HC.out.1 hpb hsc (by show ws.length + 1 ≤ _; omega)).mono ?_
        rintro e w2 hp
        have HP2 : Hid (PR w2 P Bs (ws ++ [(⟨#[110, 111, 116]⟩ : ByteArray)]) (.map (some M))) := hp.2.1
        have HF2 : Hid (Fr P Bs wc w2) := hp.2.2
        have HBx2 : Hid (w2.heap[w.heap.size]? = some (exOC x a c)) := box_fr HC.out.2.2.1 (by decide) (by omega) hp.2.2
        have hs2 : Bs ≤ w2.heap.size := by have := hp.2.2.size; omega
        obtain rfl := hp.1
        clear hp b0 b1 b2 b3 s0 s1 s2
        obtain ⟨b0, b1, b2, b3⟩ := four_cellC HBx2.out
        obtain ⟨kb, koff, a0, c0', hab, hkb, q0, q1, q2, q3, hin0⟩ := (HC.out.2.2.2.2.2.kidsIn.same (HF2.out.same hbp hpb (by omega))).2 0 k0 HK0.out
        subst hab
        simp only [Nat.zero_mul, Nat.add_zero] at q0 q1 q2 q3
        have hbr := bracketed_of B M P Bs d HLay hE h k0 a0 c0' 6 (ws ++ [(⟨#[110, 111, 116]⟩ : ByteArray)]) w2 HOK0 hin0 HP2 (HC.out.2.2.2.2.1.fr HF2.out hmb hmp hgp hpb) hs2 (by rw [← HB0.out]; simp; omega)
        rw [← HB0.out] at hbr
        clear hin0
        go_wp2_with fail
        refine hbr.mono ?_
        rintro e w3 hp
        have HP : Hid (Puts P Bs (.map (some M)) ws o w e w3) := ⟨hp.1, by rw [HO2.out]; have := hp.2.1; simpa using this, HC.out.2.1.trans (HF2.out.trans hp.2.2)⟩
        obtain rfl := hp.1
        clear hp b0 b1 b2 b3 hbr q0 q1 q2 q3
        go_wp2
        go_end0
        exact HP.out
      · have e1 : (x.kind == 1) = false := by simp; omega
        have e2 : (x.kind == 2) = false := by simp; omega
        have e3 : (x.kind == 3) = false := by simp; omega
        have e4 : (x.kind == 4) = false := by simp; omega
        have e5 : (x.kind == 5) = false := by simp; omega
        have e19 : (x.kind == 19) = true := by simp; omega
        have HKd : Hid (x.kind = 19) := hk
        clear hk hlz hk1 hk2
        have HO2 : Hid (o = Sy.callT (Sy.exT d) [x.name] x.kids) := HO.out.trans (exT_19 HKd.out)
        have hcl := calling_of B M P Bs d HLay hE h x.kids a c [x.name] ⟨wc.heap.size, 0, none⟩ 1 ws (wc.alloc (.cells ([x.name].map Value.string).toArray 9)) (fun k hk => HOK.out.2.2.2 k hk) (HC.out.2.2.2.2.2.kidsIn.same (same_grown (World.grownBy_alloc _ _ none) (by simp) (by omega))) (HC.out.1.alloc _) (HC.out.2.2.2.2.1.grown (World.grownBy_alloc _ _ _)) (by simp; omega) (lit_cellsC [x.name] wc) (by rw [← HO2.out]; exact hn)
        rw [← HO2.out] at hcl
        go_wp2_with fail
        refine hcl.mono ?_
        rintro e w2 hp
        have HP : Hid (Puts P Bs (.map (some M)) ws o w e w2) := ⟨hp.1, hp.2.1, HC.out.2.1.trans ((Fr.alloc P Bs wc _).trans hp.2.2)⟩
        obtain rfl := hp.1
        clear hp b0 b1 b2 b3 s0 s1 s2 hcl
        go_wp2
        go_end0
        exact HP.out
      · have e1 : (x.kind == 1) = false := by simp; omega
        have e2 : (x.kind == 2) = false := by simp; omega
        have e3 : (x.kind == 3) = false := by simp; omega
        have e4 : (x.kind == 4) = false := by simp; omega
        have e5 : (x.kind == 5) = false := by simp; omega
        have e19 : (x.kind == 19) = false := by simp; omega
        have e20 : (x.kind == 20) = true := by simp; omega
        have HKd : Hid (x.kind = 20) := hk
        clear hk hlz hk1 hk2
        have HO2 : Hid (o = [⟨#[114, 101, 99, 118]⟩, ⟨#[40]⟩, x.name, ⟨#[41]⟩]) := HO.out.trans (exT_20 HKd.out)
        have hno : ws.length + 4 ≤ 1000000 := by rw [HO2.out] at hn; exact hn
        go_upto_region 20 with fail
        go_region_with (go_at_call 49; refine (put_litD P Bs ws [⟨#[114, 101, 99, 118]⟩, ⟨#[40]⟩, x.name, ⟨#[41]⟩] _ 4 wc.heap.size wc rfl HC.out.1 hpb hsc hno).mono ?_; rintro e w2 hp; have HP : Hid (Puts P Bs (.map (some M)) ws o w e w2) := ⟨hp.1, by rw [HO2.out]; exact hp.2.1, HC.out.2.1.trans hp.2.2⟩; obtain rfl := hp.1; clear hp)
        all_goals
          go_wp2
          go_end0
          exact Hid.out (by assumption)
      · have e1 : (x.kind == 1) = false := by simp; omega
        have e2 : (x.kind == 2) = false := by simp; omega
        have e3 : (x.kind == 3) = false := by simp; omega
        have e4 : (x.kind == 4) = false := by simp; omega
        have e5 : (x.kind == 5) = false := by simp; omega
        have e19 : (x.kind == 19) = false := by simp; omega
        have e20 : (x.kind == 20) = false := by simp; omega
        have e21 : (x.kind == 21) = true := by simp; omega
        have HKd : Hid (x.kind = 21) := hk
        clear hk hlz hk1 hk2
        have HO2 : Hid (o = Sy.callT (Sy.exT d) [(⟨#[121, 105, 101, 108, 100]⟩ : ByteArray)] x.kids) := HO.out.trans (exT_21 HKd.out)
        have hcl := calling_of B M P Bs d HLay hE h x.kids a c [(⟨#[121, 105, 101, 108, 100]⟩ : ByteArray)] ⟨wc.heap.size, 0, none⟩ 1 ws (wc.alloc (.cells ([(⟨#[121, 105, 101, 108, 100]⟩ : ByteArray)].map Value.string).toArray 9)) (fun k hk => HOK.out.2.2.2 k hk) (HC.out.2.2.2.2.2.kidsIn.same (same_grown (World.grownBy_alloc _ _ none) (by simp) (by omega))) (HC.out.1.alloc _) (HC.out.2.2.2.2.1.grown (World.grownBy_alloc _ _ _)) (by simp; omega) (lit_cellsC [(⟨#[121, 105, 101, 108, 100]⟩ : ByteArray)] wc) (by rw [← HO2.out]; exact hn)
        rw [← HO2.out] at hcl
        go_wp2_with fail
        refine hcl.mono ?_
        rintro e w2 hp
        have HP : Hid (Puts P Bs (.map (some M)) ws o w e w2) := ⟨hp.1, hp.2.1, HC.out.2.1.trans ((Fr.alloc P Bs wc _).trans hp.2.2)⟩
        obtain rfl := hp.1
        clear hp b0 b1 b2 b3 s0 s1 s2 hcl
        go_wp2
        go_end0
        exact HP.out
      · have e1 : (x.kind == 1) = false := by simp; omega
        have e2 : (x.kind == 2) = false := by simp; omega
        have e3 : (x.kind == 3) = false := by simp; omega
        have e4 : (x.kind == 4) = false := by simp; omega
        have e5 : (x.kind == 5) = false := by simp; omega
        have e19 : (x.kind == 19) = false := by simp; omega
        have e20 : (x.kind == 20) = false := by simp; omega
        have e21 : (x.kind == 21) = false := by simp; omega
        have e22 : (x.kind == 22) = true := by simp; omega
        have HKd : Hid (x.kind = 22) := hk
        clear hk hlz hk1 hk2
        have HO2 : Hid (o = Sy.callT (Sy.exT d) [(⟨#[115, 116, 97, 114, 116]⟩ : ByteArray), x.name] x.kids) := HO.out.trans (exT_22 HKd.out)
        have hcl := calling_of B M P Bs d HLay hE h x.kids a c [(⟨#[115, 116, 97, 114, 116]⟩ : ByteArray), x.name] ⟨wc.heap.size, 0, none⟩ 2 ws (wc.alloc (.cells ([(⟨#[115, 116, 97, 114, 116]⟩ : ByteArray), x.name].map Value.string).toArray 9)) (fun k hk => HOK.out.2.2.2 k hk) (HC.out.2.2.2.2.2.kidsIn.same (same_grown (World.grownBy_alloc _ _ none) (by simp) (by omega))) (HC.out.1.alloc _) (HC.out.2.2.2.2.1.grown (World.grownBy_alloc _ _ _)) (by simp; omega) (lit_cellsC [(⟨#[115, 116, 97, 114, 116]⟩ : ByteArray), x.name] wc) (by rw [← HO2.out]; exact hn)
        rw [← HO2.out] at hcl
        go_wp2_with fail
        refine hcl.mono ?_
        rintro e w2 hp
        have HP : Hid (Puts P Bs (.map (some M)) ws o w e w2) := ⟨hp.1, hp.2.1, HC.out.2.1.trans ((Fr.alloc P Bs wc _).trans hp.2.2)⟩
        obtain rfl := hp.1
        clear hp b0 b1 b2 b3 s0 s1 s2 hcl
        go_wp2
        go_end0
        exact HP.out
      · have e1 : (x.kind == 1) = false := by simp; omega
        have e2 : (x.kind == 2) = false := by simp; omega
        have e3 : (x.kind == 3) = false := by simp; omega
        have e4 : (x.kind == 4) = false := by simp; omega
        have e5 : (x.kind == 5) = false := by simp; omega
        have e19 : (x.kind == 19) = false := by simp; omega
        have e20 : (x.kind == 20) = false := by simp; omega
        have e21 : (x.kind == 21) = false := by simp; omega
        have e22 : (x.kind == 22) = false := by simp; omega
        have e23 : (x.kind == 23) = true := by simp; omega
        have HKd : Hid (x.kind = 23) := hk
        clear hk hlz hk1 hk2
        have HO2 : Hid (o = Sy.callT (Sy.exT d) [(⟨#[114, 101, 115, 117, 109, 101]⟩ : ByteArray)] x.kids) := HO.out.trans (exT_23 HKd.out)
        have hcl := calling_of B M P Bs d HLay hE h x.kids a c [(⟨#[114, 101, 115, 117, 109, 101]⟩ : ByteArray)] ⟨wc.heap.size, 0, none⟩ 1 ws (wc.alloc (.cells ([(⟨#[114, 101, 115, 117, 109, 101]⟩ : ByteArray)].map Value.string).toArray 9)) (fun k hk => HOK.out.2.2.2 k hk) (HC.out.2.2.2.2.2.kidsIn.same (same_grown (World.grownBy_alloc _ _ none) (by simp) (by omega))) (HC.out.1.alloc _) (HC.out.2.2.2.2.1.grown (World.grownBy_alloc _ _ _)) (by simp; omega) (lit_cellsC [(⟨#[114, 101, 115, 117, 109, 101]⟩ : ByteArray)] wc) (by rw [← HO2.out]; exact hn)
        rw [← HO2.out] at hcl
        go_wp2_with fail
        refine hcl.mono ?_
        rintro e w2 hp
        have HP : Hid (Puts P Bs (.map (some M)) ws o w e w2) := ⟨hp.1, hp.2.1, HC.out.2.1.trans ((Fr.alloc P Bs wc _).trans hp.2.2)⟩
        obtain rfl := hp.1
        clear hp b0 b1 b2 b3 s0 s1 s2 hcl
        go_wp2
        go_end0
        exact HP.out
      · have e1 : (x.kind == 1) = false := by simp; omega
        have e2 : (x.kind == 2) = false := by simp; omega
        have e3 : (x.kind == 3) = false := by simp; omega
        have e4 : (x.kind == 4) = false := by simp; omega
        have e5 : (x.kind == 5) = false := by simp; omega
        have e19 : (x.kind == 19) = false := by simp; omega
        have e20 : (x.kind == 20) = false := by simp; omega
        have e21 : (x.kind == 21) = false := by simp; omega
        have e22 : (x.kind == 22) = false := by simp; omega
        have e23 : (x.kind == 23) = false := by simp; omega
        have e24 : (x.kind == 24) = true := by simp; omega
        have HKd : Hid (x.kind = 24) := hk
        clear hk hlz hk1 hk2
        have HO2 : Hid (o = Sy.callT (Sy.exT d) [(⟨#[97, 108, 105, 118, 101]⟩ : ByteArray)] x.kids) := HO.out.trans (exT_24 HKd.out)
        have hcl := calling_of B M P Bs d HLay hE h x.kids a c [(⟨#[97, 108, 105, 118, 101]⟩ : ByteArray)] ⟨wc.heap.size, 0, none⟩ 1 ws (wc.alloc (.cells ([(⟨#[97, 108, 105, 118, 101]⟩ : ByteArray)].map Value.string).toArray 9)) (fun k hk => HOK.out.2.2.2 k hk) (HC.out.2.2.2.2.2.kidsIn.same (same_grown (World.grownBy_alloc _ _ none) (by simp) (by omega))) (HC.out.1.alloc _) (HC.out.2.2.2.2.1.grown (World.grownBy_alloc _ _ _)) (by simp; omega) (lit_cellsC [(⟨#[97, 108, 105, 118, 101]⟩ : ByteArray)] wc) (by rw [← HO2.out]; exact hn)
        rw [← HO2.out] at hcl
        go_wp2_with fail
        refine hcl.mono ?_
        rintro e w2 hp
        have HP : Hid (Puts P Bs (.map (some M)) ws o w e w2) := ⟨hp.1, hp.2.1, HC.out.2.1.trans ((Fr.alloc P Bs wc _).trans hp.2.2)⟩
        obtain rfl := hp.1
        clear hp b0 b1 b2 b3 s0 s1 s2 hcl
        go_wp2
        go_end0
        exact HP.out

end Go.Proofs.YtlnikpcoejpknaaGreatDoor

