/- The document's BodyText. -/
import Derived.Test.YtbbklahhnepiaaaDoorTx4
import Derived.Test.YtbbklahhnepiaaaDoorPt9
namespace Go.Proofs.YtbbklahhnepiaaaDoor
open Go.RowKit

/-- What BodyText answers, at d levels. -/
def BtP (d : Nat) : Prop := ∀ (B h : Nat) (l : List Sy.St) (a : Option Addr) (c : Nat) (w : World), Sy.BdS d l → Hid (BodyIn B w h l a) → B ≤ w.heap.size → Hid (TabW w) →
  Calls Tryd.prog 13 #[.slice a l.length c] w fun e w' => e = .returned (.string (Sy.txt (Sy.bodyT (Sy.stT d) l))) ∧ Below w.heap.size w w'

/-- Its answer by a name. -/
theorem BtP.named {d : Nat} (hT : BtP d) (B h : Nat) (l : List Sy.St) (a : Option Addr) (c : Nat) (t : ByteArray) (w : World) (hx : Hid (Sy.BdS d l)) (hX : BodyIn B w h l a) (hB : B ≤ w.heap.size) (htab : TabW w) (ht : Hid (t = Sy.txt (Sy.bodyT (Sy.stT d) l))) :
    Calls Tryd.prog 13 #[.slice a l.length c] w fun e w' => e = .returned (.string t) ∧ Below w.heap.size w w' := by
  have := hT B h l a c w hx.out hX hB htab
  rw [← ht.out] at this
  exact this

theorem bdS_zero {l : List Sy.St} (h : Sy.BdS 0 l) : l = [] := by
  obtain ⟨n, m, _, h⟩ := h
  unfold Sy.bodyOf at h
  split at h
  · simp at h
  · cases l with
    | nil => rfl
    | cons a l => unfold Sy.runs at h; simp [Sy.stW] at h

theorem bt_size {d : Nat} {l : List Sy.St} (h : Sy.BdS d l) : (Sy.txt (Sy.bodyT (Sy.stT d) l)).size ≤ 900000 := by
  have := h.wt
  rw [Sy.txt_size, Sy.wt_body, ← Sy.wt_flat]
  omega

set_option maxRecDepth 100000 in
set_option maxHeartbeats 1000000 in
theorem bodyText_zero : BtP 0 := by
  intro B h l a c w hok hX hB htab
  obtain rfl := bdS_zero hok
  obtain ⟨r, hr⟩ : ∃ r, r = Sy.txt (Sy.bodyT (Sy.stT 0) []) := ⟨_, rfl⟩
  rw [← hr]
  have HR : Hid (r = ⟨#[123, 32]⟩ ++ ⟨#[125, 32]⟩) := hr
  clear hr hok hX hB htab
  go_enter Tryd.func13, Tryd.ntmps13
  go_wp2
  refine wp_loop_rounds 1 ?_
  rw [rounds_succ]
  go_wp2
  go_ret
  exact ⟨by rw [HR.out]; rfl, Below.refl _ _⟩

set_option maxRecDepth 100000 in
set_option maxHeartbeats 4000000 in
theorem bodyText_of (d : Nat) (hE : Hid (BtP d)) (HTx : Hid (TxP d)) : BtP (d + 1) := by
  intro B h l a c w hok hX hB htab
  obtain ⟨r, hr⟩ : ∃ r, r = Sy.txt (Sy.bodyT (Sy.stT (d + 1)) l) := ⟨_, rfl⟩
  rw [← hr]
  have HR : Hid (r = Sy.txt (Sy.bodyT (Sy.stT (d + 1)) l)) := hr
  have HOK : Hid (Sy.BdS (d + 1) l) := hok
  have hlen := hX.out.1
  unfold maxLen at hlen
  clear hr hok
  go_enter Tryd.func13, Tryd.ntmps13
  go_wp2
  go_loopw [3, 8] (fun sv i wr => ∃ (k : Nat) (done : List ByteArray) (s : ByteArray), k ≤ l.length ∧ i = .int .i64 k ∧ sv = .string s ∧ s.size ≤ 900000 ∧ Hid (s = Sy.txt ([⟨#[123]⟩] ++ done)) ∧ Hid (Below w.heap.size w wr) ∧ Hid (done ++ (l.drop k).flatMap (Sy.stT (d + 1)) = l.flatMap (Sy.stT (d + 1)))) (fun _ i _ => l.length - (intOf i).toNat)
  case atStart => exact ⟨0, [], _, Nat.zero_le _, rfl, rfl, by decide, rfl, Below.refl _ _, by rw [List.drop_zero]; rfl⟩
  case round =>
    obtain ⟨k, done, s, hk, rfl, rfl, hs, HS, HB, HD⟩ := hrel
    by_cases hlt : k < l.length
    · obtain ⟨st, hst⟩ : ∃ st, l[k]? = some st := ⟨_, List.getElem?_eq_getElem hlt⟩
      have HSt : Hid (Sy.StS (d + 1) st) := HOK.out.mem (List.mem_of_getElem? hst)
      obtain ⟨hk1, hk9⟩ := HSt.out.kind
      have HDn : Hid ((done ++ Sy.stT (d + 1) st) ++ (l.drop (k + 1)).flatMap (Sy.stT (d + 1)) = l.flatMap (Sy.stT (d + 1))) := by
        have := HD.out
        rw [flat_at hst, ← List.append_assoc] at this
        exact this
      have HZ : Hid (∀ s', s' = Sy.txt ([⟨#[123]⟩] ++ (done ++ Sy.stT (d + 1) st)) → s'.size ≤ 900000) := by
        intro s' hs'
        rw [hs', Sy.txt_size, Sy.wt_app]
        have h2 := congrArg Sy.wt HDn.out
        rw [Sy.wt_app] at h2
        have h3 := HOK.out.wt
        have h4 : Sy.wt [⟨#[123]⟩] = 2 := rfl
        omega
      have hsz := HB.out.size
      have htb : Hid (TabW wr) := htab.out.below HB.out
      cases h with
      | zero =>
        obtain ⟨b, off, xa, xc, ba, bc, ea, ec, rfl, hb, q0, q1, q2, q3, q4, q5, q6, q7, hin⟩ := hX.out.2 k st hst
        exact hin.elim
      | succ h =>
      obtain ⟨b, off, xa, xc, ba, bc, ea, ec, rfl, hb, q0, q1, q2, q3, q4, q5, q6, q7, hin⟩ := (hX.out.same (same_bel HB.out hB)).2 k st hst
      obtain ⟨-, ⟨hx, hex⟩, hbl, hel, hbd, hels⟩ := hin
      have HEx : Hid (ExIn B wr hx st.x xa) := hex
      have HBody : Hid (BodyIn B wr h st.body ba) := ⟨hbl, hbd⟩
      have HEls : Hid (BodyIn B wr h st.els ea) := ⟨hel, hels⟩
      unfold maxLen at hbl hel
      clear hex hbd hels hst
      rcases (show st.kind = 1 ∨ st.kind = 2 ∨ st.kind = 3 ∨ st.kind = 4 ∨ st.kind = 5 ∨ st.kind = 6 ∨ st.kind = 7 ∨ st.kind = 8 ∨ st.kind = 9 by omega) with hk | hk | hk | hk | hk | hk | hk | hk | hk
      · -- kind 1
        have hnz : st.name.size ≤ 12 := HSt.out.name (by omega)
        have HXs : Hid (Sy.ExS d st.x) := HSt.out.x (by omega)
        obtain ⟨t, ht⟩ : ∃ t, t = Sy.txt (Sy.exT d st.x) := ⟨_, rfl⟩
        have HT : Hid (t = Sy.txt (Sy.exT d st.x)) := ht
        have htz : t.size ≤ 800000 := by rw [ht, Sy.txt_size]; exact HXs.out.wt
        clear ht
        have HN : Hid (s ++ ⟨#[108, 101, 116, 32]⟩ ++ st.name ++ ⟨#[32, 61, 32]⟩ ++ t ++ ⟨#[59, 32]⟩ = Sy.txt ([⟨#[123]⟩] ++ (done ++ Sy.stT (d + 1) st))) := by
          unfold Hid
          rw [HS.out, HT.out, stT_1 hk]
          apply Sy.bytes_ext
          simp [Sy.txt_list, Sy.flat_app, Sy.flat_cons, Sy.flat_nil]
        go_wp2_with fail
        refine (HTx.out.one B hx st.x xa xc t _ HXs (HEx.out.same (same_bel (bel_one wr _) (by omega))) (by simp; omega) (htb.out.below (bel_one wr _)) HT).mono ?_
        rintro e w1 ⟨rfl, hb1⟩
        have HB1 : Hid (Below w.heap.size w w1) := bel_next (bel_next HB.out (bel_one wr _) hsz) hb1 (by simp; omega)
        have g0 : w1.cell? ⟨wr.heap.size, 0, none⟩ = some (.int .i64 1) := (hb1.cell (p := ⟨wr.heap.size, 0, none⟩) (by simp)).trans (by rw [World.cell?_alloc_mark]; rfl)
        have HBf := HB1
        clear hb1 q0 q1 q2 q3 q4 q5 q6 q7
        go_wp2
        go_roundw
        case rel => exact ⟨k + 1, _, _, by omega, by go_num, rfl, HZ.out _ HN.out, HN, HBf, HDn⟩
        case measure => simp [intOf]; omega
      · -- kind 2
        have hnz : st.name.size ≤ 12 := HSt.out.name (by omega)
        have HXs : Hid (Sy.ExS d st.x) := HSt.out.x (by omega)
        obtain ⟨t, ht⟩ : ∃ t, t = Sy.txt (Sy.exT d st.x) := ⟨_, rfl⟩
        have HT : Hid (t = Sy.txt (Sy.exT d st.x)) := ht
        have htz : t.size ≤ 800000 := by rw [ht, Sy.txt_size]; exact HXs.out.wt
        clear ht
        have HN : Hid (s ++ st.name ++ ⟨#[32, 61, 32]⟩ ++ t ++ ⟨#[59, 32]⟩ = Sy.txt ([⟨#[123]⟩] ++ (done ++ Sy.stT (d + 1) st))) := by
          unfold Hid
          rw [HS.out, HT.out, stT_2 hk]
          apply Sy.bytes_ext
          simp [Sy.txt_list, Sy.flat_app, Sy.flat_cons, Sy.flat_nil]
        go_wp2_with fail
        refine (HTx.out.one B hx st.x xa xc t _ HXs (HEx.out.same (same_bel (bel_one wr _) (by omega))) (by simp; omega) (htb.out.below (bel_one wr _)) HT).mono ?_
        rintro e w1 ⟨rfl, hb1⟩
        have HB1 : Hid (Below w.heap.size w w1) := bel_next (bel_next HB.out (bel_one wr _) hsz) hb1 (by simp; omega)
        have g0 : w1.cell? ⟨wr.heap.size, 0, none⟩ = some (.int .i64 2) := (hb1.cell (p := ⟨wr.heap.size, 0, none⟩) (by simp)).trans (by rw [World.cell?_alloc_mark]; rfl)
        have HBf := HB1
        clear hb1 q0 q1 q2 q3 q4 q5 q6 q7
        go_wp2
        go_roundw
        case rel => exact ⟨k + 1, _, _, by omega, by go_num, rfl, HZ.out _ HN.out, HN, HBf, HDn⟩
        case measure => simp [intOf]; omega
      · -- kind 3
        have HXs : Hid (Sy.ExS d st.x) := HSt.out.x (by omega)
        obtain ⟨t, ht⟩ : ∃ t, t = Sy.txt (Sy.exT d st.x) := ⟨_, rfl⟩
        have HT : Hid (t = Sy.txt (Sy.exT d st.x)) := ht
        have htz : t.size ≤ 800000 := by rw [ht, Sy.txt_size]; exact HXs.out.wt
        clear ht
        go_wp2_with fail
        refine (HTx.out.one B hx st.x xa xc t _ HXs (HEx.out.same (same_bel (bel_one wr _) (by omega))) (by simp; omega) (htb.out.below (bel_one wr _)) HT).mono ?_
        rintro e w1 ⟨rfl, hb1⟩
        have HB1 : Hid (Below w.heap.size w w1) := bel_next (bel_next HB.out (bel_one wr _) hsz) hb1 (by simp; omega)
        have g0 : w1.cell? ⟨wr.heap.size, 0, none⟩ = some (.int .i64 3) := (hb1.cell (p := ⟨wr.heap.size, 0, none⟩) (by simp)).trans (by rw [World.cell?_alloc_mark]; rfl)
        have g6 : w1.cell? ⟨wr.heap.size, 6, none⟩ = some (.slice ba st.body.length bc) := (hb1.cell (p := ⟨wr.heap.size, 6, none⟩) (by simp)).trans (by rw [World.cell?_alloc_mark]; rfl)
        have g7 : w1.cell? ⟨wr.heap.size, 7, none⟩ = some (.slice ea st.els.length ec) := (hb1.cell (p := ⟨wr.heap.size, 7, none⟩) (by simp)).trans (by rw [World.cell?_alloc_mark]; rfl)
        have hrz1 : wr.heap.size < w1.heap.size := by have := hb1.size; simp at this; omega
        have HBd : Hid (Sy.BdS d st.body) := (HSt.out.body (by omega)).1
        have HS1 : Hid (Go.Proofs.YtbbklahhnepiaaaDoor.Same B wr w1) := (same_bel (bel_one wr _) (by omega)).trans (same_bel hb1 (by simp; omega))
        have HTb1 : Hid (TabW w1) := (htb.out.below (bel_one wr _)).below hb1
        obtain ⟨u, hu⟩ : ∃ u, u = Sy.txt (Sy.bodyT (Sy.stT d) st.body) := ⟨_, rfl⟩
        have HU : Hid (u = Sy.txt (Sy.bodyT (Sy.stT d) st.body)) := hu
        have huz : u.size ≤ 900000 := by rw [hu]; exact bt_size HBd.out
        clear hb1 hu q0 q1 q2 q3 q4 q5 q6 q7
        go_wp2_with fail
        refine (hE.out.named B h st.body ba bc u _ HBd (HBody.out.same HS1.out) (by omega) HTb1.out HU).mono ?_
        rintro e w2 ⟨rfl, hb2⟩
        have HB2 : Hid (Below w.heap.size w w2) := bel_next HB1.out hb2 HB1.out.size
        have k0 : w2.cell? ⟨wr.heap.size, 0, none⟩ = some (.int .i64 3) := (hb2.cell (p := ⟨wr.heap.size, 0, none⟩) hrz1).trans g0
        have k7 : w2.cell? ⟨wr.heap.size, 7, none⟩ = some (.slice ea st.els.length ec) := (hb2.cell (p := ⟨wr.heap.size, 7, none⟩) hrz1).trans g7
        have HTb2 : Hid (TabW w2) := HTb1.out.below hb2
        have HS2 : Hid (Go.Proofs.YtbbklahhnepiaaaDoor.Same B wr w2) := HS1.out.trans (same_bel hb2 (by omega))
        have hBw2 : B ≤ w2.heap.size := by have := hb2.size; omega
        clear hb2 g0 g6 g7
        by_cases hels : st.els.length = 0
        · have HN : Hid (s ++ ⟨#[105, 102, 32]⟩ ++ t ++ u = Sy.txt ([⟨#[123]⟩] ++ (done ++ Sy.stT (d + 1) st))) := by
            unfold Hid
            rw [HS.out, HT.out, HU.out, stT_3 hk, if_pos hels]
            apply Sy.bytes_ext
            simp [Sy.txt_list, Sy.flat_app, Sy.flat_cons]
          have HBf := HB2
          go_wp2
          go_roundw
          case rel => exact ⟨k + 1, _, _, by omega, by go_num, rfl, HZ.out _ HN.out, HN, HBf, HDn⟩
          case measure => simp [intOf]; omega
        · have HEl : Hid (Sy.BdS d st.els) := (HSt.out.body (by omega)).2 hk
          obtain ⟨v, hv⟩ : ∃ v, v = Sy.txt (Sy.bodyT (Sy.stT d) st.els) := ⟨_, rfl⟩
          have HV : Hid (v = Sy.txt (Sy.bodyT (Sy.stT d) st.els)) := hv
          have hvz : v.size ≤ 900000 := by rw [hv]; exact bt_size HEl.out
          have HN : Hid (s ++ ⟨#[105, 102, 32]⟩ ++ t ++ u ++ ⟨#[101, 108, 115, 101, 32]⟩ ++ v = Sy.txt ([⟨#[123]⟩] ++ (done ++ Sy.stT (d + 1) st))) := by
            unfold Hid
            rw [HS.out, HT.out, HU.out, HV.out, stT_3 hk, if_neg hels]
            apply Sy.bytes_ext
            simp [Sy.txt_list, Sy.flat_app, Sy.flat_cons]
          have hel1 : 0 < (st.els.length : Int) := by omega
          clear hv hels
          go_wp2_with fail
          refine (hE.out.named B h st.els ea ec v _ HEl (HEls.out.same HS2.out) hBw2 HTb2.out HV).mono ?_
          rintro e w3 ⟨rfl, hb3⟩
          have HBf : Hid (Below w.heap.size w w3) := bel_next HB2.out hb3 HB2.out.size
          clear hb3
          go_wp2
          go_roundw
          case rel => exact ⟨k + 1, _, _, by omega, by go_num, rfl, HZ.out _ HN.out, HN, HBf, HDn⟩
          case measure => simp [intOf]; omega
      · -- kind 4
        have HXs : Hid (Sy.ExS d st.x) := HSt.out.x (by omega)
        obtain ⟨t, ht⟩ : ∃ t, t = Sy.txt (Sy.exT d st.x) := ⟨_, rfl⟩
        have HT : Hid (t = Sy.txt (Sy.exT d st.x)) := ht
        have htz : t.size ≤ 800000 := by rw [ht, Sy.txt_size]; exact HXs.out.wt
        clear ht
        go_wp2_with fail
        refine (HTx.out.one B hx st.x xa xc t _ HXs (HEx.out.same (same_bel (bel_one wr _) (by omega))) (by simp; omega) (htb.out.below (bel_one wr _)) HT).mono ?_
        rintro e w1 ⟨rfl, hb1⟩
        have HB1 : Hid (Below w.heap.size w w1) := bel_next (bel_next HB.out (bel_one wr _) hsz) hb1 (by simp; omega)
        have g0 : w1.cell? ⟨wr.heap.size, 0, none⟩ = some (.int .i64 4) := (hb1.cell (p := ⟨wr.heap.size, 0, none⟩) (by simp)).trans (by rw [World.cell?_alloc_mark]; rfl)
        have g6 : w1.cell? ⟨wr.heap.size, 6, none⟩ = some (.slice ba st.body.length bc) := (hb1.cell (p := ⟨wr.heap.size, 6, none⟩) (by simp)).trans (by rw [World.cell?_alloc_mark]; rfl)
        have g7 : w1.cell? ⟨wr.heap.size, 7, none⟩ = some (.slice ea st.els.length ec) := (hb1.cell (p := ⟨wr.heap.size, 7, none⟩) (by simp)).trans (by rw [World.cell?_alloc_mark]; rfl)
        have hrz1 : wr.heap.size < w1.heap.size := by have := hb1.size; simp at this; omega
        have HBd : Hid (Sy.BdS d st.body) := (HSt.out.body (by omega)).1
        have HS1 : Hid (Go.Proofs.YtbbklahhnepiaaaDoor.Same B wr w1) := (same_bel (bel_one wr _) (by omega)).trans (same_bel hb1 (by simp; omega))
        have HTb1 : Hid (TabW w1) := (htb.out.below (bel_one wr _)).below hb1
        obtain ⟨u, hu⟩ : ∃ u, u = Sy.txt (Sy.bodyT (Sy.stT d) st.body) := ⟨_, rfl⟩
        have HU : Hid (u = Sy.txt (Sy.bodyT (Sy.stT d) st.body)) := hu
        have huz : u.size ≤ 900000 := by rw [hu]; exact bt_size HBd.out
        clear hb1 hu q0 q1 q2 q3 q4 q5 q6 q7
        go_wp2_with fail
        refine (hE.out.named B h st.body ba bc u _ HBd (HBody.out.same HS1.out) (by omega) HTb1.out HU).mono ?_
        rintro e w2 ⟨rfl, hb2⟩
        have HB2 : Hid (Below w.heap.size w w2) := bel_next HB1.out hb2 HB1.out.size
        have k0 : w2.cell? ⟨wr.heap.size, 0, none⟩ = some (.int .i64 4) := (hb2.cell (p := ⟨wr.heap.size, 0, none⟩) hrz1).trans g0
        have HN : Hid (s ++ ⟨#[119, 104, 105, 108, 101, 32]⟩ ++ t ++ u = Sy.txt ([⟨#[123]⟩] ++ (done ++ Sy.stT (d + 1) st))) := by
          unfold Hid
          rw [HS.out, HT.out, HU.out, stT_4 hk]
          apply Sy.bytes_ext
          simp [Sy.txt_list, Sy.flat_app, Sy.flat_cons]
        have HBf := HB2
        clear hb2 g0 g6 g7
        go_wp2
        go_roundw
        case rel => exact ⟨k + 1, _, _, by omega, by go_num, rfl, HZ.out _ HN.out, HN, HBf, HDn⟩
        case measure => simp [intOf]; omega
      · -- kind 5
        have HXs : Hid (Sy.ExS d st.x) := HSt.out.x (by omega)
        obtain ⟨t, ht⟩ : ∃ t, t = Sy.txt (Sy.exT d st.x) := ⟨_, rfl⟩
        have HT : Hid (t = Sy.txt (Sy.exT d st.x)) := ht
        have htz : t.size ≤ 800000 := by rw [ht, Sy.txt_size]; exact HXs.out.wt
        clear ht
        have HN : Hid (s ++ ⟨#[114, 101, 116, 117, 114, 110, 32]⟩ ++ t ++ ⟨#[59, 32]⟩ = Sy.txt ([⟨#[123]⟩] ++ (done ++ Sy.stT (d + 1) st))) := by
          unfold Hid
          rw [HS.out, HT.out, stT_5 hk]
          apply Sy.bytes_ext
          simp [Sy.txt_list, Sy.flat_app, Sy.flat_cons, Sy.flat_nil]
        go_wp2_with fail
        refine (HTx.out.one B hx st.x xa xc t _ HXs (HEx.out.same (same_bel (bel_one wr _) (by omega))) (by simp; omega) (htb.out.below (bel_one wr _)) HT).mono ?_
        rintro e w1 ⟨rfl, hb1⟩
        have HB1 : Hid (Below w.heap.size w w1) := bel_next (bel_next HB.out (bel_one wr _) hsz) hb1 (by simp; omega)
        have g0 : w1.cell? ⟨wr.heap.size, 0, none⟩ = some (.int .i64 5) := (hb1.cell (p := ⟨wr.heap.size, 0, none⟩) (by simp)).trans (by rw [World.cell?_alloc_mark]; rfl)
        have HBf := HB1
        clear hb1 q0 q1 q2 q3 q4 q5 q6 q7
        go_wp2
        go_roundw
        case rel => exact ⟨k + 1, _, _, by omega, by go_num, rfl, HZ.out _ HN.out, HN, HBf, HDn⟩
        case measure => simp [intOf]; omega
      · -- kind 6
        have HN : Hid (s ++ ⟨#[115, 116, 111, 112, 32]⟩ ++ ⟨#[59, 32]⟩ = Sy.txt ([⟨#[123]⟩] ++ (done ++ Sy.stT (d + 1) st))) := by
          unfold Hid
          rw [HS.out, stT_6 hk]
          apply Sy.bytes_ext
          simp [Sy.txt_list, Sy.flat_app, Sy.flat_cons, Sy.flat_nil]
        have HBf : Hid (Below w.heap.size w (wr.alloc (.cells #[.int .i64 6, .string st.name, .int .i64 st.x.kind, .int .i64 st.x.n, .string st.x.name, .slice xa st.x.kids.length xc, .slice ba st.body.length bc, .slice ea st.els.length ec] 72))) := bel_next HB.out (bel_one wr _) hsz
        go_wp2
        go_roundw
        case rel => exact ⟨k + 1, _, _, by omega, by go_num, rfl, HZ.out _ HN.out, HN, HBf, HDn⟩
        case measure => simp [intOf]; omega
      · -- kind 7
        have hnz : st.name.size ≤ 12 := HSt.out.name (by omega)
        have HXs : Hid (Sy.ExS d st.x) := HSt.out.x (by omega)
        obtain ⟨t, ht⟩ : ∃ t, t = Sy.txt (Sy.exT d st.x) := ⟨_, rfl⟩
        have HT : Hid (t = Sy.txt (Sy.exT d st.x)) := ht
        have htz : t.size ≤ 800000 := by rw [ht, Sy.txt_size]; exact HXs.out.wt
        clear ht
        have HN : Hid (s ++ ⟨#[115, 101, 110, 100, 32]⟩ ++ st.name ++ ⟨#[32]⟩ ++ t ++ ⟨#[59, 32]⟩ = Sy.txt ([⟨#[123]⟩] ++ (done ++ Sy.stT (d + 1) st))) := by
          unfold Hid
          rw [HS.out, HT.out, stT_7 hk]
          apply Sy.bytes_ext
          simp [Sy.txt_list, Sy.flat_app, Sy.flat_cons, Sy.flat_nil]
        go_wp2_with fail
        refine (HTx.out.one B hx st.x xa xc t _ HXs (HEx.out.same (same_bel (bel_one wr _) (by omega))) (by simp; omega) (htb.out.below (bel_one wr _)) HT).mono ?_
        rintro e w1 ⟨rfl, hb1⟩
        have HB1 : Hid (Below w.heap.size w w1) := bel_next (bel_next HB.out (bel_one wr _) hsz) hb1 (by simp; omega)
        have g0 : w1.cell? ⟨wr.heap.size, 0, none⟩ = some (.int .i64 7) := (hb1.cell (p := ⟨wr.heap.size, 0, none⟩) (by simp)).trans (by rw [World.cell?_alloc_mark]; rfl)
        have HBf := HB1
        clear hb1 q0 q1 q2 q3 q4 q5 q6 q7
        go_wp2
        go_roundw
        case rel => exact ⟨k + 1, _, _, by omega, by go_num, rfl, HZ.out _ HN.out, HN, HBf, HDn⟩
        case measure => simp [intOf]; omega
      · -- kind 8
        have HXs : Hid (Sy.ExS d st.x) := HSt.out.x (by omega)
        obtain ⟨t, ht⟩ : ∃ t, t = Sy.txt (Sy.exT d st.x) := ⟨_, rfl⟩
        have HT : Hid (t = Sy.txt (Sy.exT d st.x)) := ht
        have htz : t.size ≤ 800000 := by rw [ht, Sy.txt_size]; exact HXs.out.wt
        clear ht
        have HN : Hid (s ++ ⟨#[111, 117, 116, 32]⟩ ++ t ++ ⟨#[59, 32]⟩ = Sy.txt ([⟨#[123]⟩] ++ (done ++ Sy.stT (d + 1) st))) := by
          unfold Hid
          rw [HS.out, HT.out, stT_8 hk]
          apply Sy.bytes_ext
          simp [Sy.txt_list, Sy.flat_app, Sy.flat_cons, Sy.flat_nil]
        go_wp2_with fail
        refine (HTx.out.one B hx st.x xa xc t _ HXs (HEx.out.same (same_bel (bel_one wr _) (by omega))) (by simp; omega) (htb.out.below (bel_one wr _)) HT).mono ?_
        rintro e w1 ⟨rfl, hb1⟩
        have HB1 : Hid (Below w.heap.size w w1) := bel_next (bel_next HB.out (bel_one wr _) hsz) hb1 (by simp; omega)
        have g0 : w1.cell? ⟨wr.heap.size, 0, none⟩ = some (.int .i64 8) := (hb1.cell (p := ⟨wr.heap.size, 0, none⟩) (by simp)).trans (by rw [World.cell?_alloc_mark]; rfl)
        have HBf := HB1
        clear hb1 q0 q1 q2 q3 q4 q5 q6 q7
        go_wp2
        go_roundw
        case rel => exact ⟨k + 1, _, _, by omega, by go_num, rfl, HZ.out _ HN.out, HN, HBf, HDn⟩
        case measure => simp [intOf]; omega
      · -- kind 9
        have HXs : Hid (Sy.ExS d st.x) := HSt.out.x (by omega)
        obtain ⟨t, ht⟩ : ∃ t, t = Sy.txt (Sy.exT d st.x) := ⟨_, rfl⟩
        have HT : Hid (t = Sy.txt (Sy.exT d st.x)) := ht
        have htz : t.size ≤ 800000 := by rw [ht, Sy.txt_size]; exact HXs.out.wt
        clear ht
        have HN : Hid (s ++ ⟨#[100, 111, 32]⟩ ++ t ++ ⟨#[59, 32]⟩ = Sy.txt ([⟨#[123]⟩] ++ (done ++ Sy.stT (d + 1) st))) := by
          unfold Hid
          rw [HS.out, HT.out, stT_9 hk]
          apply Sy.bytes_ext
          simp [Sy.txt_list, Sy.flat_app, Sy.flat_cons, Sy.flat_nil]
        go_wp2_with fail
        refine (HTx.out.one B hx st.x xa xc t _ HXs (HEx.out.same (same_bel (bel_one wr _) (by omega))) (by simp; omega) (htb.out.below (bel_one wr _)) HT).mono ?_
        rintro e w1 ⟨rfl, hb1⟩
        have HB1 : Hid (Below w.heap.size w w1) := bel_next (bel_next HB.out (bel_one wr _) hsz) hb1 (by simp; omega)
        have g0 : w1.cell? ⟨wr.heap.size, 0, none⟩ = some (.int .i64 9) := (hb1.cell (p := ⟨wr.heap.size, 0, none⟩) (by simp)).trans (by rw [World.cell?_alloc_mark]; rfl)
        have HBf := HB1
        clear hb1 q0 q1 q2 q3 q4 q5 q6 q7
        go_wp2
        go_roundw
        case rel => exact ⟨k + 1, _, _, by omega, by go_num, rfl, HZ.out _ HN.out, HN, HBf, HDn⟩
        case measure => simp [intOf]; omega
    · have HDn : Hid (s ++ ⟨#[125, 32]⟩ = r) := by
        have := HD.out
        rw [List.drop_of_length_le (by omega)] at this
        unfold Hid
        rw [HR.out, HS.out]
        unfold Sy.bodyT
        rw [← this]
        apply Sy.bytes_ext
        simp [Sy.txt_list, Sy.flat_app, Sy.flat_cons, Sy.flat_nil]
      go_wp2
      go_ret
      exact ⟨by rw [← HDn.out]; rfl, HB.out⟩

theorem btP_any : ∀ d : Nat, BtP d
  | 0 => bodyText_zero
  | d + 1 => bodyText_of d (btP_any d) (txP_any d)

end Go.Proofs.YtbbklahhnepiaaaDoor
