/- The document's Print. -/
import Derived.Test.YtbbklahhnepiaaaDoorTx5
import Derived.Test.YtbbklahhnepiaaaDoorDz
import Derived.Test.YtbbklahhnepiaaaDoorWi
import Derived.Deep.RegionHeld3
namespace Go.Proofs.YtbbklahhnepiaaaDoor
open Go.RowKit

theorem typeText_named (t : Sy.Ty) (r : ByteArray) (w : World) (ht : Hid (Sy.tyW t = 0)) (hg : t.gen.size ≤ 140737488355328) (hr : Hid (r = Sy.txt (Sy.tyT t))) :
    Calls Tryd.prog 11 #[tyV t] w fun e w' => e = .returned (.string r) ∧ Below w.heap.size w w' := by
  have := typeText_any t w ht hg
  rw [← hr.out] at this
  exact this

theorem itoa_named (n : Int) (r : ByteArray) (w : World) (h1 : 1 ≤ n) (h2 : n ≤ 20) (hr : Hid (r = Sy.numT n)) :
    Calls Tryd.prog 12 #[.int .i64 n] w fun e w' => e = .returned (.string r) ∧ Below w.heap.size w w' := by
  obtain ⟨i, hi⟩ : ∃ i : Nat, n = i := ⟨n.toNat, by omega⟩
  have hit := Tryd.strconv_Itoa_small i (by omega) w
  rw [← hi] at hit
  have hnum : Sy.numT n = ⟨(Lib.decDigits i).toArray⟩ := by rw [hi]; unfold Sy.numT Lib.itoa; rw [if_neg (by omega)]; rfl
  rw [← hnum, ← hr.out] at hit
  refine hit.mono ?_
  rintro e w' ⟨he, rfl⟩
  exact ⟨he, Below.refl _ _⟩

/-- The cells of a box that a call leaves alone. -/
theorem bcell {u v : World} {N o : Nat} {x : Value} (hb : Below u.heap.size u v) (hN : N < u.heap.size) (h : u.cell? ⟨N, o, none⟩ = some x) : v.cell? ⟨N, o, none⟩ = some x := (hb.cell (p := ⟨N, o, none⟩) hN).trans h

/-- What stands there of a definition behind a box that holds it. -/
theorem df_cells (w : World) (d : Sy.Df) (pa : Option Addr) (pc : Nat) (ba : Option Addr) (bc : Nat) :
    (w.alloc (dfO d pa pc ba bc)).cell? ⟨w.heap.size, 0, none⟩ = some (.int .i64 d.kind) ∧ (w.alloc (dfO d pa pc ba bc)).cell? ⟨w.heap.size, 1, none⟩ = some (.string d.name) ∧ (w.alloc (dfO d pa pc ba bc)).cell? ⟨w.heap.size, 2, none⟩ = some (.int .i64 d.ty.kind) ∧ (w.alloc (dfO d pa pc ba bc)).cell? ⟨w.heap.size, 3, none⟩ = some (.string d.ty.gen) ∧
    (w.alloc (dfO d pa pc ba bc)).cell? ⟨w.heap.size, 4, none⟩ = some (.int .i64 d.takes.kind) ∧ (w.alloc (dfO d pa pc ba bc)).cell? ⟨w.heap.size, 5, none⟩ = some (.string d.takes.gen) ∧ (w.alloc (dfO d pa pc ba bc)).cell? ⟨w.heap.size, 6, none⟩ = some (.int .i64 d.cap) ∧ (w.alloc (dfO d pa pc ba bc)).cell? ⟨w.heap.size, 7, none⟩ = some (.slice pa d.params.length pc) ∧ (w.alloc (dfO d pa pc ba bc)).cell? ⟨w.heap.size, 8, none⟩ = some (.slice ba d.body.length bc) := by
  refine ⟨?_, ?_, ?_, ?_, ?_, ?_, ?_, ?_, ?_⟩ <;> (rw [World.cell?_alloc_mark]; rfl)

theorem empty_of {s : ByteArray} (h : s.size = 0) : s = ⟨#[]⟩ := by
  cases s with
  | mk d =>
    have : d = #[] := Array.eq_empty_of_size_eq_zero h
    rw [this]

theorem join_cut (ws : List ByteArray) : joinT ws = (Sy.txt ws).extract 0 ((Sy.txt ws).size - 1) := by
  apply Sy.bytes_ext
  unfold joinT
  rw [Sy.join_flat, Sy.txt_size]
  simp [Sy.txt, Sy.wt, List.dropLast_eq_take]

theorem cut_size (s : ByteArray) : (s.extract 0 (s.size - 1)).size = s.size - 1 := by
  simp

set_option maxRecDepth 100000 in
set_option maxHeartbeats 4000000 in
theorem rprint_right (l : List Sy.Df) (a : Option Addr) (c : Nat) (r : ByteArray) (er : Int) (w : World) (hX : Hid (DfsIn w.heap.size w l a)) (HW : Hid (Sy.wrongL l = (0, 0))) (HG : Hid (Gens l)) (htab : Hid (TabW w))
    (HR : Hid ((r, er) = if 6000 < (joinT (Sy.progT l)).size then ((⟨#[]⟩ : ByteArray), 4) else (joinT (Sy.progT l), 0))) :
    Calls Tryd.prog 5 #[.slice a l.length c] w fun e w' => e = .returned (.tuple #[.string r, .agg #[.int .i64 er, .int .i64 0]]) ∧ Below w.heap.size w w' := by
  have HA : Hid ((∀ d ∈ l, DfG d) ∧ Sy.wt (Sy.progT l) ≤ 800000) := (right_all (by rw [HW.out])).2
  have hlen : l.length ≤ 30 := (right_all (l := l) (by rw [HW.out])).1
  go_enter Tryd.func5, Tryd.ntmps5
  go_wp2_with fail
  refine (rwrong_any l a c _ ((hX.out.same (same_bel (bel_one w Z2) (Nat.le_refl _))).wide (by simp))).mono ?_
  rintro e w1 ⟨rfl, hb1⟩
  rw [HW.out]
  obtain ⟨F, hF⟩ : ∃ F, F = w1.alloc Z2 := ⟨_, rfl⟩
  have HFb : Hid (Below w.heap.size w F) := by rw [hF]; exact bel_next (bel_next (bel_one w Z2) hb1 (by simp)) (bel_one w1 Z2) (by have := hb1.size; simp at this; omega)
  have HF0 : Hid (F.heap[w.heap.size]? = some Z2) := by
    rw [hF]
    unfold Hid
    rw [Below.heap_alloc _ _ _ (by have := hb1.size; simp at this; omega), hb1.block _ (by simp)]
    exact heap_alloc_new w Z2
  have HFe : Hid (w1.alloc Z2 = F) := hF.symm
  have hFw : w.heap.size < F.heap.size := by rw [hF]; have := hb1.size; simp at this ⊢; omega
  clear hF hb1
  go_wp2
  rw [HFe.out]
  clear HFe
  go_loopw [5, 19] (fun sv i wr => ∃ (k : Nat) (done : List ByteArray) (s : ByteArray), k ≤ l.length ∧ i = .int .i64 k ∧ sv = .string s ∧ s.size ≤ 900000 ∧ Hid (s = Sy.txt done) ∧ Hid (Below F.heap.size F wr) ∧ Hid (done ++ Sy.progT (l.drop k) = Sy.progT l)) (fun _ i _ => l.length - (intOf i).toNat)
  case atStart => exact ⟨0, [], _, Nat.zero_le _, rfl, rfl, by decide, rfl, Below.refl _ _, by rw [List.drop_zero]; rfl⟩
  case round =>
    obtain ⟨k, done, s, hk, rfl, rfl, hs, HS, HB, HD⟩ := hrel
    by_cases hlt : k < l.length
    · obtain ⟨d, hd⟩ : ∃ d, l[k]? = some d := ⟨_, List.getElem?_eq_getElem hlt⟩
      have HDg : Hid (DfG d) := HA.out.1 d (List.mem_of_getElem? hd)
      obtain ⟨hg1, hg2, hg3⟩ := HG.out d (List.mem_of_getElem? hd)
      have HG3 : Hid (∀ p ∈ d.params, p.ty.gen.size ≤ 140737488355328) := hg3
      have HDn : Hid ((done ++ Sy.dfT d) ++ Sy.progT (l.drop (k + 1)) = Sy.progT l) := by
        have := HD.out
        rw [prog_at hd, ← List.append_assoc] at this
        exact this
      have HZ : Hid (∀ s', s' = Sy.txt (done ++ Sy.dfT d) → s'.size ≤ 900000) := by
        intro s' hs'
        rw [hs', Sy.txt_size]
        have h2 := congrArg Sy.wt HDn.out
        rw [Sy.wt_app] at h2
        have h3 := HA.out.2
        omega
      have hBw : Hid (Below w.heap.size w wr) := bel_next HFb.out HB.out (by omega)
      have hwz := HB.out.size
      have htb : Hid (TabW wr) := htab.out.below hBw.out
      obtain ⟨b, off, pa, pc, ba, bc, rfl, hb, q0, q1, q2, q3, q4, q5, q6, q7, q8, hin⟩ := (hX.out.same (same_bel hBw.out (Nat.le_refl _))).2 k d hd
      obtain ⟨-, -, -, hpms, hh, hbody⟩ := hin
      have HPm : Hid (PmsIn w.heap.size wr d.params pa) := hpms
      have HBd : Hid (BodyIn w.heap.size wr hh d.body ba) := hbody
      have hnz := HDg.out.name
      obtain ⟨hk1, hk4⟩ := And.intro HDg.out.ok.lo HDg.out.ok.hi
      clear hg3 hpms hbody hd
      obtain ⟨V, hV⟩ : ∃ V, V = wr.alloc (dfO d pa pc ba bc) := ⟨_, rfl⟩
      obtain ⟨g0, g1, g2, g3, g4, g5, g6, g7, g8⟩ := df_cells wr d pa pc ba bc
      rw [← hV] at g0 g1 g2 g3 g4 g5 g6 g7 g8
      have HVb : Hid (Below wr.heap.size wr V) := by rw [hV]; exact bel_one wr _
      have hVz : V.heap.size = wr.heap.size + 1 := by rw [hV]; simp
      have HVe : Hid (wr.alloc (dfO d pa pc ba bc) = V) := hV.symm
      have HVF : Hid (Below F.heap.size F V) := bel_next HB.out HVb.out hwz
      have htV : Hid (TabW V) := htb.out.below HVb.out
      have HSv : Hid (Go.Proofs.YtbbklahhnepiaaaDoor.Same w.heap.size wr V) := same_bel HVb.out (by omega)
      clear hV
      go_upto_region 8 with fail
      rw [HVe.out]
      clear HVe q0 q1 q2 q3 q4 q5 q6 q7 q8
      generalize wr.heap.size = N at hVz hwz g0 g1 g2 g3 g4 g5 g6 g7 g8 ⊢
      have hNV : N < V.heap.size := by omega
      by_cases hkd1 : d.kind = 1
      · have e1 : (d.kind == 1) = true := by simp; omega
        have HTy : Hid (Sy.tyW d.ty = 0) := HDg.out.ok.ty (by omega)
        obtain ⟨hc1, hc2⟩ := HDg.out.ok.cap hkd1
        obtain ⟨t, ht⟩ : ∃ t, t = Sy.txt (Sy.tyT d.ty) := ⟨_, rfl⟩
        have HT : Hid (t = Sy.txt (Sy.tyT d.ty)) := ht
        have htz : t.size ≤ 13 := by rw [ht, Sy.txt_size]; exact Sy.ty_wt HTy.out
        obtain ⟨nn, hnn⟩ : ∃ nn, nn = Sy.numT d.cap := ⟨_, rfl⟩
        have HNn : Hid (nn = Sy.numT d.cap) := hnn
        have hnnz : nn.size ≤ 21 := by rw [hnn]; exact Sy.num_size _ (by omega) (by omega)
        have HN : Hid (s ++ ⟨#[98, 111, 120, 32]⟩ ++ d.name ++ ⟨#[32]⟩ ++ t ++ nn ++ ⟨#[32, 59, 32]⟩ = Sy.txt (done ++ Sy.dfT d)) := by
          unfold Hid
          rw [HS.out, HT.out, HNn.out, dfT_1 hkd1]
          apply Sy.bytes_ext
          simp [Sy.txt_list, Sy.flat_app, Sy.flat_cons, Sy.flat_nil]
        clear ht hnn hkd1
        go_upto_region 9 with fail
        have n2 : ¬ 9223372036854775807 < s.size + 4 := by omega
        have n3 : ¬ 9223372036854775807 < s.size + 4 + d.name.size := by omega
        have n4 : ¬ 9223372036854775807 < s.size + 4 + d.name.size + 1 := by omega
        have n5 : ¬ 9223372036854775807 < s.size + 4 + d.name.size + 1 + t.size := by omega
        have n6 : ¬ 9223372036854775807 < s.size + 4 + d.name.size + 1 + t.size + nn.size := by omega
        have n7 : ¬ 9223372036854775807 < s.size + 4 + d.name.size + 1 + t.size + nn.size + 3 := by omega
        go_region_held3 (fun w' => w'.cell? ⟨N, 1, none⟩ = some (.string d.name) ∧ w'.cell? ⟨N, 2, none⟩ = some (.int .i64 d.ty.kind) ∧ w'.cell? ⟨N, 3, none⟩ = some (.string d.ty.gen) ∧ w'.cell? ⟨N, 6, none⟩ = some (.int .i64 d.cap)) (go_keep)
          (first
            | (go_at_call 12; have hx1 := HV1.out; refine (itoa_named d.cap nn _ hc1 hc2 HNn).mono ?_; rintro e v2 ⟨rfl, hb2⟩; have HV2 : Hid (Below F.heap.size F v2) := bel_next hx1 hb2 hx1.size; clear hx1; have g1b := bcell (o := 1) hb2 hN1 g1a; have g2b := bcell (o := 2) hb2 hN1 g2a; have g3b := bcell (o := 3) hb2 hN1 g3a; have g6b := bcell (o := 6) hb2 hN1 g6a; clear hb2)
            | (go_at_call 11; refine (typeText_named d.ty t _ HTy hg1 HT).mono ?_; rintro e v1 ⟨rfl, hb1⟩; have HV1 : Hid (Below F.heap.size F v1) := bel_next HVF.out.drew hb1 HVF.out.size; have hN1 : N < v1.heap.size := Nat.lt_of_lt_of_le hNV hb1.size; have g1a := bcell (o := 1) hb1 hNV g1; have g2a := bcell (o := 2) hb1 hNV g2; have g3a := bcell (o := 3) hb1 hNV g3; have g6a := bcell (o := 6) hb1 hNV g6; clear hb1))
        all_goals
          go_wp2
          go_roundw
          case rel => exact ⟨k + 1, _, _, by omega, by go_num, rfl, HZ.out _ HN.out, HN, Hid.out (by assumption), HDn⟩
          case measure => simp [intOf]; omega
      have e1 : (d.kind == 1) = false := by simp; omega
      have HBS : Hid (Sy.BdS 39 d.body) := HDg.out.body hkd1
      obtain ⟨bd, hbd⟩ : ∃ bd, bd = Sy.txt (Sy.bodyT (Sy.stT 39) d.body) := ⟨_, rfl⟩
      have HBt : Hid (bd = Sy.txt (Sy.bodyT (Sy.stT 39) d.body)) := hbd
      have hbz : bd.size ≤ 900000 := by rw [hbd]; exact bt_size HBS.out
      have HbC : Hid (∀ u : World, Below V.heap.size V u → Calls Tryd.prog 13 #[.slice ba d.body.length bc] u fun e w' => e = .returned (.string bd) ∧ Below u.heap.size u w') := by
        intro u hu
        exact (btP_any 39).named w.heap.size hh d.body ba bc bd u HBS ((HBd.out.same HSv.out).same (same_bel hu (by omega))) (by have := hu.size; omega) (htV.out.below hu) HBt
      clear hbd
      by_cases hkd4 : d.kind = 4
      · have e4 : (d.kind == 4) = true := by simp; omega
        have HN : Hid (s ++ ⟨#[116, 97, 115, 107, 32]⟩ ++ d.name ++ ⟨#[32]⟩ ++ bd = Sy.txt (done ++ Sy.dfT d)) := by
          unfold Hid
          rw [HS.out, HBt.out, dfT_4 hkd4]
          apply Sy.bytes_ext
          simp [Sy.txt_list, Sy.flat_app, Sy.flat_cons]
        clear hkd1 hkd4
        go_upto_region 11 with fail
        have n2 : ¬ 9223372036854775807 < s.size + 5 := by omega
        have n3 : ¬ 9223372036854775807 < s.size + 5 + d.name.size := by omega
        have n4 : ¬ 9223372036854775807 < s.size + 5 + d.name.size + 1 := by omega
        have n5 : ¬ 9223372036854775807 < s.size + 5 + d.name.size + 1 + bd.size := by omega
        go_region_held3 (fun w' => w'.cell? ⟨N, 1, none⟩ = some (.string d.name) ∧ w'.cell? ⟨N, 8, none⟩ = some (.slice ba d.body.length bc)) (go_keep)
          (first
            | (go_at_call 13; refine (HbC.out _ (Below.refl _ V).drew).mono ?_; rintro e v1 ⟨rfl, hb1⟩; have HV1 : Hid (Below F.heap.size F v1) := bel_next HVF.out.drew hb1 HVF.out.size; have g1a := bcell (o := 1) hb1 hNV g1; have g8a := bcell (o := 8) hb1 hNV g8; clear hb1))
        all_goals
          go_wp2
          go_roundw
          case rel => exact ⟨k + 1, _, _, by omega, by go_num, rfl, HZ.out _ HN.out, HN, Hid.out (by assumption), HDn⟩
          case measure => simp [intOf]; omega
      have e4 : (d.kind == 4) = false := by simp; omega
      have hk23 : d.kind = 2 ∨ d.kind = 3 := by omega
      obtain ⟨hp6, hpn, hpw⟩ := HDg.out.pms hk23
      have HPn : Hid (∀ p ∈ d.params, p.name.size ≤ 12) := hpn
      have HPw : Hid (Sy.wt (Sy.pmsT d.params) ≤ 172) := hpw
      have HPt : Hid (∀ p ∈ d.params, Sy.tyW p.ty = 0) := HDg.out.ok.pms hk23
      have HPm2 : Hid (PmsIn w.heap.size V d.params pa) := ⟨HPm.out.1, fun i p hi => by
        obtain ⟨b, off, he, hb, c0, c1, c2, z1, z2⟩ := HPm.out.2 i p hi
        exact ⟨b, off, he, hb, (HSv.out _ _ hb).trans c0, (HSv.out _ _ hb).trans c1, (HSv.out _ _ hb).trans c2, z1, z2⟩⟩
      have HK23 : Hid (d.kind = 2 ∨ d.kind = 3) := hk23
      clear hpn hpw hk23 hkd1 hkd4
      go_wp2
      go_loopw [8, 57] (fun pv iv wr => ∃ (j : Nat) (pd : List ByteArray) (p : ByteArray), j ≤ d.params.length ∧ iv = .int .i64 j ∧ pv = .string p ∧ p.size ≤ 1000 ∧ Hid (p = Sy.txt ([⟨#[40]⟩] ++ pd)) ∧ Hid (Below V.heap.size V wr) ∧ Hid (pd ++ Sy.listT Sy.pmT j (d.params.drop j) = Sy.listT Sy.pmT 0 d.params)) (fun _ iv _ => d.params.length - (intOf iv).toNat)
      case atStart => exact ⟨0, [], _, Nat.zero_le _, rfl, rfl, by decide, rfl, Below.refl _ _, by rw [List.drop_zero]; rfl⟩
      case round =>
        obtain ⟨j, pd, p, hj, rfl, rfl, hp, HP, HBi, HDi⟩ := hrel
        by_cases hjl : j < d.params.length
        · obtain ⟨x, hx⟩ : ∃ x, d.params[j]? = some x := ⟨_, List.getElem?_eq_getElem hjl⟩
          have hxm := List.mem_of_getElem? hx
          have hxn : x.name.size ≤ 12 := HPn.out x hxm
          have HxT : Hid (Sy.tyW x.ty = 0) := HPt.out x hxm
          have hxg := HG3.out x hxm
          obtain ⟨b2, off2, rfl, hb2, q0, q1, q2, -, -⟩ := HPm2.out.2 j x hx
          rw [← HBi.out.cell (p := ⟨b2, off2 + j * 3, none⟩) (by show b2 < _; omega)] at q0
          rw [← HBi.out.cell (p := ⟨b2, off2 + j * 3 + 1, none⟩) (by show b2 < _; omega)] at q1
          rw [← HBi.out.cell (p := ⟨b2, off2 + j * 3 + 2, none⟩) (by show b2 < _; omega)] at q2
          obtain ⟨t, ht⟩ : ∃ t, t = Sy.txt (Sy.tyT x.ty) := ⟨_, rfl⟩
          have HT : Hid (t = Sy.txt (Sy.tyT x.ty)) := ht
          have htz : t.size ≤ 13 := by rw [ht, Sy.txt_size]; exact Sy.ty_wt HxT.out
          have hD2 := HDi.out
          rw [listT_at hx] at hD2
          obtain ⟨cm, hcm⟩ : ∃ cm, cm = (if 0 < j then [(⟨#[44]⟩ : ByteArray)] else []) := ⟨_, rfl⟩
          rw [← hcm] at hD2
          have HD2 : Hid ((pd ++ cm ++ Sy.pmT x) ++ Sy.listT Sy.pmT (j + 1) (d.params.drop (j + 1)) = Sy.listT Sy.pmT 0 d.params) := by unfold Hid; rw [← hD2]; simp only [List.append_assoc]
          have HZp : Hid (∀ p', p' = Sy.txt ([⟨#[40]⟩] ++ (pd ++ cm ++ Sy.pmT x)) → p'.size ≤ 1000) := by
            intro p' hp'
            rw [hp', Sy.txt_size, Sy.wt_app]
            have h2 := congrArg Sy.wt HD2.out
            rw [Sy.wt_app] at h2
            have h3 := HPw.out
            unfold Sy.pmsT at h3
            rw [Sy.wt_app, Sy.wt_app] at h3
            omega
          obtain ⟨X, hXe⟩ : ∃ X, X = wr.alloc (.cells #[.string x.name, .int .i64 x.ty.kind, .string x.ty.gen] 49) := ⟨_, rfl⟩
          have y0 : X.cell? ⟨wr.heap.size, 0, none⟩ = some (.string x.name) := by rw [hXe, World.cell?_alloc_mark]; rfl
          have y1 : X.cell? ⟨wr.heap.size, 1, none⟩ = some (.int .i64 x.ty.kind) := by rw [hXe, World.cell?_alloc_mark]; rfl
          have y2 : X.cell? ⟨wr.heap.size, 2, none⟩ = some (.string x.ty.gen) := by rw [hXe, World.cell?_alloc_mark]; rfl
          have HXv : Hid (Below V.heap.size V X) := by rw [hXe]; exact bel_next HBi.out (bel_one wr _) HBi.out.size
          have hXz : wr.heap.size < X.heap.size := by rw [hXe]; simp
          have HXe : Hid (wr.alloc (.cells #[.string x.name, .int .i64 x.ty.kind, .string x.ty.gen] 49) = X) := hXe.symm
          clear hD2 ht hx hxm hXe
          by_cases hj0 : 0 < j
          · have HNp : Hid (p ++ ⟨#[44, 32]⟩ ++ x.name ++ ⟨#[32]⟩ ++ t = Sy.txt ([⟨#[40]⟩] ++ (pd ++ cm ++ Sy.pmT x))) := by
              unfold Hid
              rw [HP.out, HT.out, hcm, if_pos hj0]
              apply Sy.bytes_ext
              simp [Sy.txt_list, Sy.flat_app, Sy.flat_cons, Sy.pmT]
            clear hcm
            go_upto_region 18 with fail
            rw [HXe.out]
            have n2 : ¬ 9223372036854775807 < p.size + 2 := by omega
            have n3 : ¬ 9223372036854775807 < p.size + 2 + x.name.size := by omega
            have n4 : ¬ 9223372036854775807 < p.size + 2 + x.name.size + 1 := by omega
            have n5 : ¬ 9223372036854775807 < p.size + 2 + x.name.size + 1 + t.size := by omega
            go_region_held3 (fun w' => w'.cell? ⟨wr.heap.size, 0, none⟩ = some (.string x.name) ∧ w'.cell? ⟨wr.heap.size, 1, none⟩ = some (.int .i64 x.ty.kind) ∧ w'.cell? ⟨wr.heap.size, 2, none⟩ = some (.string x.ty.gen)) (go_keep)
              (first
                | (go_at_call 11; refine (typeText_named x.ty t _ HxT hxg HT).mono ?_; rintro e v1 ⟨rfl, hb1⟩; have HV1 : Hid (Below V.heap.size V v1) := bel_next HXv.out.drew hb1 HXv.out.size; have y0a := bcell (o := 0) hb1 hXz y0; have y1a := bcell (o := 1) hb1 hXz y1; have y2a := bcell (o := 2) hb1 hXz y2; clear hb1))
            all_goals
              go_wp2
              go_roundw
              case rel => exact ⟨j + 1, _, _, by omega, by go_num, rfl, HZp.out _ HNp.out, HNp, Hid.out (by assumption), HD2⟩
              case measure => simp [intOf]; omega
          · have HNp : Hid (p ++ x.name ++ ⟨#[32]⟩ ++ t = Sy.txt ([⟨#[40]⟩] ++ (pd ++ cm ++ Sy.pmT x))) := by
              unfold Hid
              rw [HP.out, HT.out, hcm, if_neg hj0]
              apply Sy.bytes_ext
              simp [Sy.txt_list, Sy.flat_app, Sy.flat_cons, Sy.pmT]
            have hj00 : (j : Int) ≤ 0 := by omega
            clear hcm hj0
            go_upto_region 18 with fail
            rw [HXe.out]
            have n2 : ¬ 9223372036854775807 < p.size + x.name.size := by omega
            have n3 : ¬ 9223372036854775807 < p.size + x.name.size + 1 := by omega
            have n4 : ¬ 9223372036854775807 < p.size + x.name.size + 1 + t.size := by omega
            go_region_held3 (fun w' => w'.cell? ⟨wr.heap.size, 0, none⟩ = some (.string x.name) ∧ w'.cell? ⟨wr.heap.size, 1, none⟩ = some (.int .i64 x.ty.kind) ∧ w'.cell? ⟨wr.heap.size, 2, none⟩ = some (.string x.ty.gen)) (go_keep)
              (first
                | (go_at_call 11; refine (typeText_named x.ty t _ HxT hxg HT).mono ?_; rintro e v1 ⟨rfl, hb1⟩; have HV1 : Hid (Below V.heap.size V v1) := bel_next HXv.out.drew hb1 HXv.out.size; have y0a := bcell (o := 0) hb1 hXz y0; have y1a := bcell (o := 1) hb1 hXz y1; have y2a := bcell (o := 2) hb1 hXz y2; clear hb1))
            all_goals
              go_wp2
              go_roundw
              case rel => exact ⟨j + 1, _, _, by omega, by go_num, rfl, HZp.out _ HNp.out, HNp, Hid.out (by assumption), HD2⟩
              case measure => simp [intOf]; omega
        · have HPa : Hid (p = Sy.txt ([⟨#[40]⟩] ++ Sy.listT Sy.pmT 0 d.params)) := by
            have := HDi.out
            rw [List.drop_of_length_le (by omega)] at this
            unfold Hid
            rw [HP.out, ← this]
            simp [Sy.listT]
          have HTy : Hid (Sy.tyW d.ty = 0) := HDg.out.ok.ty (by have := HK23.out; omega)
          obtain ⟨t, ht⟩ : ∃ t, t = Sy.txt (Sy.tyT d.ty) := ⟨_, rfl⟩
          have HT : Hid (t = Sy.txt (Sy.tyT d.ty)) := ht
          have htz : t.size ≤ 13 := by rw [ht, Sy.txt_size]; exact Sy.ty_wt HTy.out
          have HFr : Hid (Below F.heap.size F wr) := bel_next HVF.out HBi.out HVF.out.size
          have hNr : N < wr.heap.size := Nat.lt_of_lt_of_le hNV HBi.out.size
          have r0 := bcell (o := 0) HBi.out hNV g0
          have r1 := bcell (o := 1) HBi.out hNV g1
          have r2 := bcell (o := 2) HBi.out hNV g2
          have r3 := bcell (o := 3) HBi.out hNV g3
          have r4 := bcell (o := 4) HBi.out hNV g4
          have r5 := bcell (o := 5) HBi.out hNV g5
          have r8 := bcell (o := 8) HBi.out hNV g8
          clear g0 g1 g2 g3 g4 g5 g6 g7 g8 ht
          by_cases hkd2 : d.kind = 2
          · have e2 : (d.kind == 2) = true := by simp; omega
            have HN : Hid (s ++ ⟨#[102, 110, 32]⟩ ++ d.name ++ ⟨#[32]⟩ ++ p ++ ⟨#[41, 32]⟩ ++ t ++ bd = Sy.txt (done ++ Sy.dfT d)) := by
              unfold Hid
              rw [HS.out, HT.out, HBt.out, HPa.out, dfT_2 hkd2]
              apply Sy.bytes_ext
              simp [Sy.txt_list, Sy.flat_app, Sy.flat_cons, Sy.pmsT]
            clear hkd2
            go_upto_region 21 with fail
            have n2 : ¬ 9223372036854775807 < s.size + 3 := by omega
            have n3 : ¬ 9223372036854775807 < s.size + 3 + d.name.size := by omega
            have n4 : ¬ 9223372036854775807 < s.size + 3 + d.name.size + 1 := by omega
            have n5 : ¬ 9223372036854775807 < s.size + 3 + d.name.size + 1 + p.size := by omega
            have n6 : ¬ 9223372036854775807 < s.size + 3 + d.name.size + 1 + p.size + 2 := by omega
            have n7 : ¬ 9223372036854775807 < s.size + 3 + d.name.size + 1 + p.size + 2 + t.size := by omega
            have n8 : ¬ 9223372036854775807 < s.size + 3 + d.name.size + 1 + p.size + 2 + t.size + bd.size := by omega
            go_region_held3 (fun w' => w'.cell? ⟨N, 1, none⟩ = some (.string d.name) ∧ w'.cell? ⟨N, 2, none⟩ = some (.int .i64 d.ty.kind) ∧ w'.cell? ⟨N, 3, none⟩ = some (.string d.ty.gen) ∧ w'.cell? ⟨N, 8, none⟩ = some (.slice ba d.body.length bc)) (go_keep)
              (first
                | (go_at_call 13; have hx1 := HVr1.out; refine (HbC.out _ hx1).mono ?_; clear hx1; rintro e v2 ⟨rfl, hb2⟩; have HV2 : Hid (Below F.heap.size F v2) := bel_next HV1.out hb2 HV1.out.size; have r1b := bcell (o := 1) hb2 hN1 r1a; have r2b := bcell (o := 2) hb2 hN1 r2a; have r3b := bcell (o := 3) hb2 hN1 r3a; have r8b := bcell (o := 8) hb2 hN1 r8a;  clear hb2)
                | (go_at_call 11; refine (typeText_named d.ty t _ HTy hg1 HT).mono ?_; rintro e v1 ⟨rfl, hb1⟩; have HV1 : Hid (Below F.heap.size F v1) := bel_next HFr.out.drew hb1 HFr.out.size; have HVr1 : Hid (Below V.heap.size V v1) := bel_next HBi.out.drew hb1 HBi.out.size; have hN1 : N < v1.heap.size := Nat.lt_of_lt_of_le hNr hb1.size; have r1a := bcell (o := 1) hb1 hNr r1; have r2a := bcell (o := 2) hb1 hNr r2; have r3a := bcell (o := 3) hb1 hNr r3; have r8a := bcell (o := 8) hb1 hNr r8;  clear hb1))
            all_goals
              go_wp2
              go_roundw
              case rel => exact ⟨k + 1, _, _, by omega, by go_num, rfl, HZ.out _ HN.out, HN, Hid.out (by assumption), HDn⟩
              case measure => simp [intOf]; omega
          · have hkd3 : d.kind = 3 := by have := HK23.out; omega
            have e2 : (d.kind == 2) = false := by simp; omega
            have HTk : Hid (Sy.tyW d.takes = 0) := HDg.out.ok.takes hkd3
            obtain ⟨tk, htk⟩ : ∃ tk, tk = Sy.txt (Sy.tyT d.takes) := ⟨_, rfl⟩
            have HTt : Hid (tk = Sy.txt (Sy.tyT d.takes)) := htk
            have htkz : tk.size ≤ 13 := by rw [htk, Sy.txt_size]; exact Sy.ty_wt HTk.out
            have HN : Hid (s ++ ⟨#[103, 101, 110, 32]⟩ ++ d.name ++ ⟨#[32]⟩ ++ p ++ ⟨#[41, 32, 116, 97, 107, 101, 115, 32]⟩ ++ tk ++ ⟨#[121, 105, 101, 108, 100, 115, 32]⟩ ++ t ++ bd = Sy.txt (done ++ Sy.dfT d)) := by
              unfold Hid
              rw [HS.out, HT.out, HTt.out, HBt.out, HPa.out, dfT_3 hkd3]
              apply Sy.bytes_ext
              simp [Sy.txt_list, Sy.flat_app, Sy.flat_cons, Sy.pmsT]
            clear hkd2 hkd3 htk
            go_upto_region 22 with fail
            have n2 : ¬ 9223372036854775807 < s.size + 4 := by omega
            have n3 : ¬ 9223372036854775807 < s.size + 4 + d.name.size := by omega
            have n4 : ¬ 9223372036854775807 < s.size + 4 + d.name.size + 1 := by omega
            have n5 : ¬ 9223372036854775807 < s.size + 4 + d.name.size + 1 + p.size := by omega
            have n6 : ¬ 9223372036854775807 < s.size + 4 + d.name.size + 1 + p.size + 8 := by omega
            have n7 : ¬ 9223372036854775807 < s.size + 4 + d.name.size + 1 + p.size + 8 + tk.size := by omega
            have n8 : ¬ 9223372036854775807 < s.size + 4 + d.name.size + 1 + p.size + 8 + tk.size + 7 := by omega
            have n9 : ¬ 9223372036854775807 < s.size + 4 + d.name.size + 1 + p.size + 8 + tk.size + 7 + t.size := by omega
            have n10 : ¬ 9223372036854775807 < s.size + 4 + d.name.size + 1 + p.size + 8 + tk.size + 7 + t.size + bd.size := by omega
            go_region_held3 (fun w' => w'.cell? ⟨N, 1, none⟩ = some (.string d.name) ∧ w'.cell? ⟨N, 2, none⟩ = some (.int .i64 d.ty.kind) ∧ w'.cell? ⟨N, 3, none⟩ = some (.string d.ty.gen) ∧ w'.cell? ⟨N, 4, none⟩ = some (.int .i64 d.takes.kind) ∧ w'.cell? ⟨N, 5, none⟩ = some (.string d.takes.gen) ∧ w'.cell? ⟨N, 8, none⟩ = some (.slice ba d.body.length bc)) (go_keep)
              (first
                | (go_at_call 13; have hx1 := HVr2.out; refine (HbC.out _ hx1).mono ?_; clear hx1; rintro e v3 ⟨rfl, hb3⟩; have HV3 : Hid (Below F.heap.size F v3) := bel_next HV2.out hb3 HV2.out.size; have r1c := bcell (o := 1) hb3 hN2 r1b; have r2c := bcell (o := 2) hb3 hN2 r2b; have r3c := bcell (o := 3) hb3 hN2 r3b; have r4c := bcell (o := 4) hb3 hN2 r4b; have r5c := bcell (o := 5) hb3 hN2 r5b; have r8c := bcell (o := 8) hb3 hN2 r8b;  clear hb3)
                | (have hx1 := HV1.out; go_at_call 11; refine (typeText_named d.ty t _ HTy hg1 HT).mono ?_; rintro e v2 ⟨rfl, hb2⟩; have HV2 : Hid (Below F.heap.size F v2) := bel_next hx1 hb2 hx1.size; have HVr2 : Hid (Below V.heap.size V v2) := bel_next HVr1.out hb2 HVr1.out.size; have hN2 : N < v2.heap.size := Nat.lt_of_lt_of_le hN1 hb2.size; clear hx1; have r1b := bcell (o := 1) hb2 hN1 r1a; have r2b := bcell (o := 2) hb2 hN1 r2a; have r3b := bcell (o := 3) hb2 hN1 r3a; have r4b := bcell (o := 4) hb2 hN1 r4a; have r5b := bcell (o := 5) hb2 hN1 r5a; have r8b := bcell (o := 8) hb2 hN1 r8a;  clear hb2)
                | (go_at_call 11; refine (typeText_named d.takes tk _ HTk hg2 HTt).mono ?_; rintro e v1 ⟨rfl, hb1⟩; have HV1 : Hid (Below F.heap.size F v1) := bel_next HFr.out.drew hb1 HFr.out.size; have HVr1 : Hid (Below V.heap.size V v1) := bel_next HBi.out.drew hb1 HBi.out.size; have hN1 : N < v1.heap.size := Nat.lt_of_lt_of_le hNr hb1.size; have r1a := bcell (o := 1) hb1 hNr r1; have r2a := bcell (o := 2) hb1 hNr r2; have r3a := bcell (o := 3) hb1 hNr r3; have r4a := bcell (o := 4) hb1 hNr r4; have r5a := bcell (o := 5) hb1 hNr r5; have r8a := bcell (o := 8) hb1 hNr r8;  clear hb1))
            all_goals
              go_wp2
              go_roundw
              case rel => exact ⟨k + 1, _, _, by omega, by go_num, rfl, HZ.out _ HN.out, HN, Hid.out (by assumption), HDn⟩
              case measure => simp [intOf]; omega
    · have HSa : Hid (s = Sy.txt (Sy.progT l)) := by
        have := HD.out
        rw [List.drop_of_length_le (by omega)] at this
        unfold Hid
        rw [HS.out, ← this]
        simp [Sy.progT]
      have HBw : Hid (Below w.heap.size w wr) := bel_next HFb.out HB.out (by omega)
      obtain ⟨c0, c1, f0, f1⟩ := two_cell ((HB.out.block _ hFw).trans HF0.out)
      obtain ⟨z, hzz⟩ : ∃ z, z = joinT (Sy.progT l) := ⟨_, rfl⟩
      have HZe : Hid (z = s.extract 0 (s.size - 1)) := by rw [hzz, HSa.out]; exact join_cut _
      have HZs : Hid (z.size = s.size - 1) := by rw [hzz, HSa.out, join_cut]; exact cut_size _
      have HR2 : Hid ((r, er) = if 6000 < z.size then ((⟨#[]⟩ : ByteArray), 4) else (z, 0)) := by rw [hzz]; exact HR
      clear hzz
      by_cases hz : s.size = 0
      · have HR3 : Hid (r = s ∧ er = 0) := by
          have h1 := HR2.out
          have h2 := HZs.out
          rw [if_neg (by omega)] at h1
          refine ⟨(congrArg Prod.fst h1).trans ?_, congrArg Prod.snd h1⟩
          rw [empty_of hz, HZe.out, empty_of hz]
          rfl
        go_wp2
        refine bodyPost_ret (v := .tuple #[.string s, .agg #[.int .i64 0, .int .i64 0]]) (by simp [results, Tryd.results5, go_sem, c0, c1]) rfl ⟨by rw [HR3.out.1, HR3.out.2], ?_⟩
        exact (HBw.out.setCell (p := ⟨w.heap.size, 0, none⟩) (Nat.le_refl _) _).setCell (p := ⟨w.heap.size, 1, none⟩) (Nat.le_refl _) _
      · have hz1 : 0 < (s.size : Int) := by omega
        by_cases hz6 : 6000 < s.size - 1
        · have HR3 : Hid (r = ⟨#[]⟩ ∧ er = 4) := by
            have h1 := HR2.out
            rw [if_pos (by have := HZs.out; omega)] at h1
            exact ⟨congrArg Prod.fst h1, congrArg Prod.snd h1⟩
          have hz7 : 6000 < ((s.size - 1 : Nat) : Int) := by omega
          clear hz hz6
          go_wp2
          refine bodyPost_ret (v := .tuple #[.string ⟨#[]⟩, .agg #[.int .i64 4, .int .i64 0]]) (by simp [results, Tryd.results5, go_sem, c0, c1]) rfl ⟨by rw [HR3.out.1, HR3.out.2], ?_⟩
          exact (HBw.out.setCell (p := ⟨w.heap.size, 0, none⟩) (Nat.le_refl _) _).setCell (p := ⟨w.heap.size, 1, none⟩) (Nat.le_refl _) _
        · have HR3 : Hid (r = s.extract 0 (s.size - 1) ∧ er = 0) := by
            have h1 := HR2.out
            rw [if_neg (by have := HZs.out; omega)] at h1
            exact ⟨(congrArg Prod.fst h1).trans HZe.out, congrArg Prod.snd h1⟩
          have hz7 : ((s.size - 1 : Nat) : Int) ≤ 6000 := by omega
          clear hz hz6
          go_wp2
          refine bodyPost_ret (v := .tuple #[.string (s.extract 0 (s.size - 1)), .agg #[.int .i64 0, .int .i64 0]]) (by simp [results, Tryd.results5, go_sem, c0, c1]) rfl ⟨by rw [HR3.out.1, HR3.out.2], ?_⟩
          exact (HBw.out.setCell (p := ⟨w.heap.size, 0, none⟩) (Nat.le_refl _) _).setCell (p := ⟨w.heap.size, 1, none⟩) (Nat.le_refl _) _

end Go.Proofs.YtbbklahhnepiaaaDoor
