/- SoloGoes, plainly: what a right asking comes to. -/
import Derived.Test.YtnfbfdajdflfgaaM50
import Derived.Test.YtnfbfdajdflfgaaM51
namespace Go.Proofs.Ytnfbfdajdflfgaa.Vw
open Go.RowKit Vf Vm

theorem Try.infoerrno : (Try.prog.info? 32).map (fun i => i.size) = some 1 := by kernel_rfl
theorem eq_errno (d : Nat) (x y : Int) (w : World) : (Op.equalIn (d + 1) 32 (.int .i64 x) (.int .i64 y)).run Try.prog w = .ok (x == y) w := by
  simp [Op.equalIn, run_underlying Try.underlying32]
/-- Two Wheres, held against each other. -/
theorem eq_where (a b c a' b' c' : Int) (w : World) : (Op.equalIn 10000 34 (whV a b c) (whV a' b' c')).run Try.prog w = .ok (a == a' && b == b' && c == c') w := by
  have hu := run_underlying (P := Try.prog) (w := w) Try.underlying34
  obtain ⟨j, hj, hj2⟩ := Option.map_eq_some_iff.1 Try.infolink
  obtain ⟨j', hj', hj2'⟩ := Option.map_eq_some_iff.1 Try.infoerrno
  have p0 : ∀ (a b c : Value) (w : World), (part 32 #[a, b, c] 0).run Try.prog w = .ok a w := fun _ _ _ _ => by simp [part, sizeOf, typeInfo, hj', hj2']
  have p1 : ∀ (a b c : Value) (w : World), (part 3 #[a, b, c] 1).run Try.prog w = .ok b w := fun _ _ _ _ => by simp [part, sizeOf, typeInfo, hj, hj2]
  have p2 : ∀ (a b c : Value) (w : World), (part 3 #[a, b, c] 2).run Try.prog w = .ok c w := fun _ _ _ _ => by simp [part, sizeOf, typeInfo, hj, hj2]
  have hst : Try.prog.stoodInHeld 34 = false := by kernel_rfl
  have hp : (Sem.program Sem.pure).run Try.prog w = .ok Try.prog w := rfl
  have h : ∀ d : Nat, (Op.equalIn (d + 2) 34 (whV a b c) (whV a' b' c')).run Try.prog w = .ok (a == a' && b == b' && c == c') w := fun d => by
    rw [Op.equalIn]
    simp [hu, program, hp, hst, p0, p1, p2, eq_int, eq_errno]
    by_cases ha : a = a'
    · by_cases hb : b = b'
      · by_cases hc : c = c'
        · simp [ha, hb, hc]
        · simp [ha, hb, hc]
      · simp [ha, hb]
    · simp [ha]
  exact h 9998

/-- Nothing but truths is fed to boxes of truths, up to the k-th one. -/
def FedOk (bs : List Bx) (fs : List (List Int)) (k : Nat) : Prop := ∀ (i : Nat) b f, i < k → bs[i]? = some b → fs[i]? = some f → b.ty = 2 → f.all truthB = true
theorem fedOk_wrong {bs : List Bx} {fs : List (List Int)} (h : FedOk bs fs bs.length) : wrongF bs fs = false := by
  induction bs generalizing fs with
  | nil => cases fs <;> rfl
  | cons b bs ih =>
    cases fs with
    | nil => rfl
    | cons f fs =>
      simp only [wrongF, Bool.or_eq_false_iff]
      refine ⟨?_, ih (fun i b' f' hi hb hf h2 => h (i + 1) b' f' (by simpa using hi) hb hf h2)⟩
      by_cases h2 : b.ty = 2
      · have := h 0 b f (by simp) rfl rfl h2
        simp [h2, this]
      · have : (b.ty == 2) = false := by simpa using h2
        simp [this]
theorem fedOk_more {bs : List Bx} {fs : List (List Int)} {k : Nat} (h : FedOk bs fs k) {b : Bx} {f : List Int} (hb : bs[k]? = some b) (hf : fs[k]? = some f) (h2 : b.ty = 2 → f.all truthB = true) : FedOk bs fs (k + 1) := fun i b' f' hi hb' hf' ht => by
  by_cases e : i = k
  · subst e
    rw [hb] at hb'; rw [hf] at hf'
    cases hb'; cases hf'
    exact h2 ht
  · exact h i b' f' (by omega) hb' hf' ht

theorem soloE_ok {m : Md} {task most : Int} {fs : List (List Int)} (hv : verify m = (0, 0, 0)) (t0 : 0 ≤ task) (t1 : task < (tasksTo m.units m.units.length).length) (m0 : 0 ≤ most) (m1 : most ≤ 5000) (hl : fs.length = m.boxes.length) (hf : FedOk m.boxes fs m.boxes.length) : (0 : Int) = soloE m task most fs := by
  unfold soloE
  rw [if_neg (by rw [hv]; simp), if_neg (by omega)]
  unfold feedsE
  rw [if_pos hl, if_neg (by rw [fedOk_wrong hf]; simp)]

/-- How a task stands that ran by itself. -/
theorem solo_stands {m : Md} {task most : Int} {fs : List (List Int)} {K : KM} (hI : LI m K fs (soloR m task most fs).1 (soloR m task most fs).2.1 (soloR m task most fs).2.2) (hK : Known m K) (hm : 0 ≤ most) {s q : Nat} (hs : (s, q) = stat lsX m (soloR m task most fs).2.1 (soloR m task most fs).2.2) :
    (s = 1 ∧ ((soloR m task most fs).1 : Int) = most) ∨ (s = 3 ∧ ∃ y f, (soloR m task most fs).2.2[q]? = some y ∧ fs[q]? = some f ∧ y.took = f.length) ∨ s = 4 ∨ s = 5 := by
  have hend := go_end (X := lsX) (m := m) most.toNat (newTk (unit m (soloU m task)) (soloU m task)) (soloX fs)
  change (stat lsX m (soloR m task most fs).2.1 (soloR m task most fs).2.2).1 = 1 → (soloR m task most fs).1 = most.toNat at hend
  rw [← hs] at hend
  generalize soloR m task most fs = R at *
  obtain ⟨n, t, x⟩ := R
  dsimp only at *
  unfold stat at hs
  rcases hI.over with h0 | h0 | h0
  · rw [if_neg (by omega), if_neg (by simp [lsX])] at hs
    split at hs
    · rename_i hh
      cases hs
      refine .inr (.inl ⟨rfl, ?_⟩)
      rcases hI.goes with hg | ⟨G, st, hM⟩
      · exact absurd h0 hg
      · obtain ⟨h, f, r, u, i, k, k', H⟩ := hM.here hK
        rw [H.ins] at hh ⊢
        obtain ⟨hp1, hp2, hrg⟩ := H.pos
        unfold ranged at hrg
        rw [if_neg (by omega), if_neg (by omega), if_neg (by omega), if_neg (by omega), if_neg (by omega), if_pos (.inr hh.1)] at hrg
        simp at hrg
        obtain ⟨y, hy⟩ : ∃ y, x[i.a.toNat]? = some y := ⟨_, List.getElem?_eq_getElem (by rw [hI.len]; omega)⟩
        obtain ⟨l1, l2, _⟩ := hI.lists _ y hy
        have he := hh.2
        simp [lsX, hy] at he
        exact ⟨y, y.feed, hy, l1, he⟩
    · cases hs
      exact .inl ⟨rfl, by have := hend rfl; omega⟩
  · rw [if_pos (by omega)] at hs
    cases hs
    exact .inr (.inr (.inl h0))
  · rw [if_pos (by omega)] at hs
    cases hs
    exact .inr (.inr (.inr h0))
end Go.Proofs.Ytnfbfdajdflfgaa.Vw

/- The walk of SoloGoes. -/
namespace Go.Proofs.Ytnfbfdajdflfgaa.Vw
open Go.RowKit Vf Vm

/-- What there is: what was there at first, and the module's box. -/
structure Gs (w : World) (m : Md) (ab au : Option Addr) (cb cu : Nat) (wr : World) : Prop where
  below : Below w.heap.size w wr
  md : wr.heap[w.heap.size]? = some (mdB m ab au cb cu)
theorem Gs.on {w : World} {m : Md} {ab au : Option Addr} {cb cu : Nat} {wr wr' : World} (h : Gs w m ab au cb cu wr) (hb : Below wr.heap.size wr wr') : Gs w m ab au cb cu wr' :=
  ⟨h.below.trans (hb.mono h.below.size), (hb.block _ (lt_of_block h.md)).trans h.md⟩
theorem Gs.alloc {w : World} {m : Md} {ab au : Option Addr} {cb cu : Nat} {wr : World} (h : Gs w m ab au cb cu wr) (o : Obj) : Gs w m ab au cb cu (wr.alloc o) := h.on ((Below.refl _ wr).alloc (Nat.le_refl _) o)

set_option maxRecDepth 100000 in
set_option maxHeartbeats 4000000 in
theorem goes_any (m : Md) (ab au : Option Addr) (cb cu : Nat) (fs : List (List Int)) (a : Option Addr) (cap : Nat) (fa : Nat → Option Addr) (fc : Nat → Nat) (w : World) (hmd : Hid (ModIn w.heap.size w m ab au)) (hfd : Hid (FdIn w.heap.size w fs a fa fc)) (task most : Int) :
    Calls Try.prog 3 #[mdV m ab au cb cu, .int .i64 task, .slice a fs.length cap, .int .i64 most] w fun e w' => e = .returned (.bool true) ∧ Below w.heap.size w w' := by
  have HG0 : Hid (Gs w m ab au cb cu (w.alloc (mdB m ab au cb cu))) := ⟨(Below.refl _ w).alloc (Nat.le_refl _) _, heap_alloc_new w _⟩
  have HMD : Hid (∀ W, Below w.heap.size w W → ModIn w.heap.size W m ab au ∧ FdIn w.heap.size W fs a fa fc) := fun W hW => ⟨hmd.out.low hW.block, hfd.out.low hW.block⟩
  have hul := hmd.out.few.2
  have hbl := hmd.out.few.1
  have hfl := hfd.out.few
  go_enter Try.func3, Try.ntmps3
  go_wp2_with fail
  generalize w.alloc (mdB m ab au cb cu) = W0 at *
  refine (alive_any _).mono ?_
  rintro e w1 ⟨rfl, hb1⟩
  have HG1 := Sb.hide (HG0.out.on hb1)
  clear hb1
  have c1 := md_cells HG1.out.md
  go_wp2
  clear c1
  go_loopw [9, 27] (fun tv v wr => ∃ k : Nat, v = .int .i64 k ∧ k ≤ m.units.length ∧ tv = .int .i64 ((tasksTo m.units k).length : Int) ∧ Gs w m ab au cb cu wr) (fun _ v _ => m.units.length - (intOf v).toNat)
  case atStart => exact ⟨0, rfl, Nat.zero_le _, rfl, HG1.out⟩
  case round =>
    obtain ⟨k, rfl, hk, rfl, hG⟩ := hrel
    have HG := Sb.hide hG
    clear hG
    have htl := tasksTo_len m.units k
    by_cases hlt : k < m.units.length
    · obtain ⟨u, hu⟩ : ∃ u, m.units[k]? = some u := ⟨_, List.getElem?_eq_getElem hlt⟩
      obtain ⟨ub, uoff, al, cl, ac, cc, rfl, hub, _, x0, x1, x2, x3, x4, x5⟩ := (HMD.out _ HG.out.below).1.units k u hu
      have HS := Sb.hide (tasksTo_succ hu)
      have hz := HG.out.below.size
      obtain ⟨ml, hml⟩ : ∃ m', m' = m.units.length := ⟨_, rfl⟩
      obtain ⟨tl, htl2⟩ : ∃ t, t = (tasksTo m.units k).length := ⟨_, rfl⟩
      have HTL := Sb.hide htl2
      rw [← hml]
      rw [← hml] at hlt hul hk
      rw [← htl2] at htl ⊢
      have HML := Sb.hide hml
      have n0 : (0 : Int) ≤ (k : Int) := by omega
      have n1 : (k : Int) < (ml : Int) := by omega
      have HG2 := Sb.hide (HG.out.alloc (.cells #[.int .i64 u.kind, .int .i64 u.params, .slice al u.locals.length cl, .int .i64 u.result, .int .i64 u.takes, .slice ac u.code.length cc] 31))
      clear hml hu htl2
      by_cases h4 : u.kind = 4
      · have e4 : (u.kind == 4) = true := by simpa using h4
        have HS2 : Hid ((tasksTo m.units (k + 1)).length = tl + 1) := by unfold Hid; rw [HS.out, if_pos h4, HTL.out]; simp
        clear h4
        go_wp2
        go_roundw
        case rel => exact ⟨k + 1, by go_num, by have := HML.out; omega, by rw [HS2.out]; go_num, HG2.out⟩
        case measure => simp [intOf]; omega
      · have e4 : (u.kind == 4) = false := by simpa using h4
        have HS2 : Hid ((tasksTo m.units (k + 1)).length = tl) := by unfold Hid; rw [HS.out, if_neg h4, HTL.out]
        clear h4
        go_wp2
        go_roundw
        case rel => exact ⟨k + 1, by go_num, by have := HML.out; omega, by rw [HS2.out], HG2.out⟩
        case measure => simp [intOf]; omega
    · have ek : k = m.units.length := by omega
      subst ek
      obtain ⟨N, hN⟩ : ∃ N, N = (tasksTo m.units m.units.length).length := ⟨_, rfl⟩
      have HN := Sb.hide hN
      rw [← hN] at htl ⊢
      clear hN
      have c2 := md_cells HG.out.md
      obtain ⟨ve, hve⟩ : ∃ v, v = verify m := ⟨_, rfl⟩
      have HVE := Sb.hide hve
      clear hve
      go_wp2_with fail
      refine (verify_any m ab au cb cu w.heap.size _ (Sb.hide (HMD.out _ HG.out.below).1) HG.out.below.size ve HVE).mono ?_
      rintro e w3 ⟨rfl, hg3⟩
      have HG3 := Sb.hide (HG.out.on (below_grown0 hg3))
      clear hg3 c2
      have q3 := eq_where ve.1 ve.2.1 ve.2.2 0 0 0 w3
      have c3 := md_cells HG3.out.md
      by_cases g1 : ve.1 = 0
      · by_cases g2 : ve.2.1 = 0
        · by_cases g3 : ve.2.2 = 0
          · have HRT : Hid (verify m = (0, 0, 0)) := by
              unfold Hid
              rw [← HVE.out]
              exact Prod.ext g1 (Prod.ext g2 g3)
            have e1 : (ve.1 == 0) = true := by simpa using g1
            have e2 : (ve.2.1 == 0) = true := by simpa using g2
            have e3 : (ve.2.2 == 0) = true := by simpa using g3
            clear g1 g2 g3
            by_cases t1 : task < 0
            · skip
              go_wp2
              go_ret
              exact ⟨rfl, HG3.out.below⟩
            have d1 : decide (task < 0) = false := by simpa using t1
            by_cases t2 : (N : Int) ≤ task
            · skip
              go_wp2
              go_ret
              exact ⟨rfl, HG3.out.below⟩
            have d2 : decide ((N : Int) ≤ task) = false := by simpa using t2
            by_cases t3 : most < 0
            · skip
              go_wp2
              go_ret
              exact ⟨rfl, HG3.out.below⟩
            have d3 : decide (most < 0) = false := by simpa using t3
            by_cases t4 : 5000 < most
            · skip
              go_wp2
              go_ret
              exact ⟨rfl, HG3.out.below⟩
            have d4 : decide (5000 < most) = false := by simpa using t4
            by_cases t5 : fs.length = m.boxes.length
            · have e5 : ((fs.length : Int) != (m.boxes.length : Int)) = false := by simp; omega
              have HL5 := Sb.hide t5
              have HTS : Hid (0 ≤ task ∧ task < (N : Int) ∧ 0 ≤ most ∧ most ≤ 5000) := ⟨by omega, by omega, by omega, by omega⟩
              rw [t5] at e5 ⊢
              clear t1 t2 t3 t4 t5
              go_wp2
              go_loopw [69] (fun v wr => ∃ k : Nat, v = .int .i64 k ∧ k ≤ m.boxes.length ∧ FedOk m.boxes fs k ∧ Gs w m ab au cb cu wr) (fun v _ => m.boxes.length - (intOf v).toNat)
              case atStart => exact ⟨0, rfl, Nat.zero_le _, fun i b f hi => by omega, HG3.out⟩
              case round =>
                obtain ⟨k, rfl, hk, hfo, hG⟩ := hrel
                have HG4 := Sb.hide hG
                have HFO := Sb.hide hfo
                clear hG hfo c3
                by_cases hlt : k < m.boxes.length
                · obtain ⟨b, hb⟩ : ∃ b, m.boxes[k]? = some b := ⟨_, List.getElem?_eq_getElem hlt⟩
                  obtain ⟨f, hf⟩ : ∃ f, fs[k]? = some f := ⟨_, List.getElem?_eq_getElem (by have := HL5.out; omega)⟩
                  obtain ⟨_, _, bb, boff, rfl, hbb, x0, x1⟩ := (HMD.out _ HG4.out.below).1.boxes k b hb
                  obtain ⟨fb, foff, rfl, hfb, y0⟩ := (HMD.out _ HG4.out.below).2.rows k f hf
                  obtain ⟨hfll, hfw⟩ := hfd.out.words k f hf
                  have hz4 := HG4.out.below.size
                  have HG5 := Sb.hide (HG4.out.alloc (.cells #[.int .i64 b.ty, .int .i64 b.cap] 37))
                  have y1 : (wr.alloc (.cells #[.int .i64 b.ty, .int .i64 b.cap] 37)).cell? ⟨fb, foff + k, none⟩ = some (.slice (fa k) f.length (fc k)) := (cell_eq (Below.heap_alloc _ _ _ (by omega)) _).trans y0
                  have HFW : Hid (∀ (j : Nat) v, f[j]? = some v → ∃ b2 off2, fa k = some ⟨b2, off2, none⟩ ∧ (wr.alloc (.cells #[.int .i64 b.ty, .int .i64 b.cap] 37)).cell? ⟨b2, off2 + j, none⟩ = some (.int .i64 v)) := fun j v hv => by
                    obtain ⟨b2, off2, e, hb2, hc⟩ := hfw j v hv
                    exact ⟨b2, off2, e, (cell_eq (HG5.out.below.block b2 (by omega)) _).trans hc⟩
                  have z1 : (wr.alloc (.cells #[.int .i64 b.ty, .int .i64 b.cap] 37)).cell? ⟨wr.heap.size, 0, none⟩ = some (.int .i64 b.ty) := by simp [World.cell?_alloc_mark]
                  have HBK := Sb.hide hb
                  have HFK := Sb.hide hf
                  obtain ⟨ml, hml⟩ : ∃ m', m' = m.boxes.length := ⟨_, rfl⟩
                  rw [← hml] at hlt hbl hk ⊢
                  have HML := Sb.hide hml
                  have n0 : (0 : Int) ≤ (k : Int) := by omega
                  have n1 : (k : Int) < (ml : Int) := by omega
                  clear hml hb hf hfw
                  go_wp2
                  generalize wr.alloc (.cells #[.int .i64 b.ty, .int .i64 b.cap] 37) = W5 at *
                  generalize wr.heap.size = NB at *
                  clear x0 x1 y0 y1
                  go_loopw [79] (fun v wr => ∃ j : Nat, v = .int .i64 j ∧ j ≤ f.length ∧ (b.ty = 2 → (f.take j).all truthB = true) ∧ wr = W5) (fun v _ => f.length - (intOf v).toNat)
                  case atStart => exact ⟨0, rfl, Nat.zero_le _, fun _ => rfl, rfl⟩
                  case round =>
                    obtain ⟨j, rfl, hj, hjt, rfl⟩ := hrel
                    have HJT := Sb.hide hjt
                    clear hjt
                    by_cases hjl : j < f.length
                    · obtain ⟨v, hv⟩ : ∃ v, f[j]? = some v := ⟨_, List.getElem?_eq_getElem hjl⟩
                      obtain ⟨vb, voff, hva, hvc⟩ := HFW.out j v hv
                      have HTK : Hid ((f.take (j + 1)).all truthB = ((f.take j).all truthB && truthB v)) := by
                        unfold Hid
                        rw [List.take_add_one, hv]
                        simp
                      obtain ⟨fl, hfl2⟩ : ∃ l, l = f.length := ⟨_, rfl⟩
                      have HFLL := Sb.hide hfl2
                      rw [hva, ← hfl2]
                      rw [← hfl2] at hjl hfll hj
                      have m0 : (0 : Int) ≤ (j : Int) := by omega
                      have m1 : (j : Int) < (fl : Int) := by omega
                      clear hv hfl2
                      by_cases h2 : b.ty = 2
                      · have e6 : (b.ty == 2) = true := by simpa using h2
                        by_cases v0 : v = 0
                        · subst v0
                          have HREL : Hid (b.ty = 2 → (f.take (j + 1)).all truthB = true) := fun h => by rw [HTK.out, HJT.out h]; rfl
                          clear h2
                          go_wp2
                          go_roundw
                          case rel => exact ⟨j + 1, by go_num, by have := HFLL.out; omega, HREL.out, (by first | rfl | trivial)⟩
                          case measure => simp [intOf]; omega
                        · by_cases v1 : v = 1
                          · subst v1
                            have HREL : Hid (b.ty = 2 → (f.take (j + 1)).all truthB = true) := fun h => by rw [HTK.out, HJT.out h]; rfl
                            clear h2 v0
                            go_wp2
                            go_roundw
                            case rel => exact ⟨j + 1, by go_num, by have := HFLL.out; omega, HREL.out, (by first | rfl | trivial)⟩
                            case measure => simp [intOf]; omega
                          · have e7 : (v != 0) = true := by simpa using v0
                            have e8 : (v != 1) = true := by simpa using v1
                            clear h2 v0 v1
                            go_wp2
                            go_ret
                            exact ⟨rfl, HG5.out.below⟩
                      · have e6 : (b.ty == 2) = false := by simpa using h2
                        have HREL : Hid (b.ty = 2 → (f.take (j + 1)).all truthB = true) := fun h => absurd h h2
                        clear h2
                        go_wp2
                        go_roundw
                        case rel => exact ⟨j + 1, by go_num, by have := HFLL.out; omega, HREL.out, (by first | rfl | trivial)⟩
                        case measure => simp [intOf]; omega
                    · have hje : j = f.length := by omega
                      have HF1 : Hid (FedOk m.boxes fs (k + 1)) := fedOk_more HFO.out HBK.out HFK.out (fun h2 => by
                        have := HJT.out h2
                        rw [hje, List.take_length] at this
                        exact this)
                      have njl : ¬ (j : Int) < (f.length : Int) := by omega
                      clear hje
                      go_wp2
                      go_roundw
                      case rel => exact ⟨k + 1, by go_num, by have := HML.out; omega, HF1.out, HG5.out⟩
                      case measure => simp [intOf]; omega
                · have ek : k = m.boxes.length := by omega
                  subst ek
                  have HE0 : Hid ((0 : Int) = soloE m task most fs) := soloE_ok HRT.out HTS.out.1 (by rw [← HN.out]; exact HTS.out.2.1) HTS.out.2.2.1 HTS.out.2.2.2 HL5.out HFO.out
                  have c4 := md_cells HG4.out.md
                  go_wp2_with fail
                  have hsol := solo_some m ab au cb cu w.heap.size fs a cap fa fc wr (Sb.hide (HMD.out _ HG4.out.below).1) (Sb.hide (HMD.out _ HG4.out.below).2) HG4.out.below.size task most 0 HE0
                  rw [HL5.out] at hsol
                  refine hsol.mono ?_
                  clear hsol c4
                  rintro e w5 ⟨s, q, tr, st, oa, on, oc, sa, sn, sc, ta, tn, tc, rfl, hb5, hk5⟩
                  have hO5 := hk5 rfl
                  have HF5 := Sb.hide (hO5.few HE0.out.symm)
                  obtain ⟨K, hK, hI⟩ := hO5.li
                  have HST5 := Sb.hide (solo_stands hI hK HTS.out.2.2.1 hO5.stat)
                  have HG5 := Sb.hide (HG4.out.on hb5)
                  have HI := Sb.hide hI
                  have hsteps := hO5.steps
                  have hstm : (soloR m task most fs).1 ≤ most.toNat := go_le _ _ _
                  obtain ⟨R, hR⟩ : ∃ R, R = soloR m task most fs := ⟨_, rfl⟩
                  have hrd := hO5.rd
                  rw [← hR] at HI HF5 HST5 hsteps hstm hrd
                  obtain ⟨sa1, sc1, e7, hsr⟩ := hrd.sent.at
                  obtain ⟨ta1, tc1, e8, _, htr⟩ := hrd.took
                  simp at e7 e8
                  obtain ⟨rfl, hsn, rfl⟩ := e7
                  obtain ⟨rfl, htn, rfl⟩ := e8
                  have hxl : R.2.2.length = m.boxes.length := HI.out.len
                  rw [hxl] at hsn htn
                  subst hsn htn
                  have HSR := Sb.hide hsr
                  have HTR := Sb.hide htr
                  have HXL := Sb.hide hxl
                  have hsle : (st : Int) ≤ most := by have := HTS.out; omega
                  have HSE := Sb.hide hsteps
                  have c5 := md_cells HG5.out.md
                  have hz5 := lt_of_block HG5.out.md
                  have ebb : ((m.boxes.length : Int) != (m.boxes.length : Int)) = false := by simp
                  have dst : decide (most < (st : Int)) = false := by simp; omega
                  clear hb5 hk5 hO5 hI hK hR hrd hsr htr hxl hsteps hstm
                  go_wp2
                  have HB6 : Hid (Gs w m ab au cb cu (w5.alloc (repO s q tr (.slice oa on oc) (.slice sa m.boxes.length sc) (.slice ta m.boxes.length tc) st))) := HG5.out.alloc _
                  have HR6 : Hid ((w5.alloc (repO s q tr (.slice oa on oc) (.slice sa m.boxes.length sc) (.slice ta m.boxes.length tc) st)).heap[w5.heap.size]? = some (repO s q tr (.slice oa on oc) (.slice sa m.boxes.length sc) (.slice ta m.boxes.length tc) st)) := heap_alloc_new w5 _
                  have H56 : Hid (Below w5.heap.size w5 (w5.alloc (repO s q tr (.slice oa on oc) (.slice sa m.boxes.length sc) (.slice ta m.boxes.length tc) st))) := (Below.refl _ w5).alloc (Nat.le_refl _) _
                  generalize w5.alloc (repO s q tr (.slice oa on oc) (.slice sa m.boxes.length sc) (.slice ta m.boxes.length tc) st) = W6 at *
                  clear c5
                  go_loopw [133] (fun v wr => ∃ k : Nat, v = .int .i64 k ∧ k ≤ m.boxes.length ∧ Below W6.heap.size W6 wr) (fun v _ => m.boxes.length - (intOf v).toNat)
                  case atStart => exact ⟨0, rfl, Nat.zero_le _, .refl _ _⟩
                  case round =>
                    obtain ⟨k, rfl, hk, hb⟩ := hrel
                    have HB7 := Sb.hide hb
                    have HG7 := Sb.hide (HB6.out.on hb)
                    have H57 := Sb.hide (H56.out.trans (hb.mono H56.out.size))
                    have HR7 := Sb.hide ((hb.block _ (lt_of_block HR6.out)).trans HR6.out)
                    clear hb
                    by_cases hlt : k < m.boxes.length
                    · obtain ⟨b, hb⟩ : ∃ b, m.boxes[k]? = some b := ⟨_, List.getElem?_eq_getElem hlt⟩
                      obtain ⟨y, hy⟩ : ∃ y, R.2.2[k]? = some y := ⟨_, List.getElem?_eq_getElem (by have := HXL.out; omega)⟩
                      obtain ⟨l1, l2, l3, l4⟩ := HI.out.lists k y hy
                      have hbt : boxTy m (k : Int) = b.ty := by simp [boxTy, hb]
                      rw [hbt] at l4
                      have HL4 := Sb.hide l4
                      have htv := HTR.out k (y.took : Int) (by rw [List.getElem?_map, hy]; rfl)
                      obtain ⟨tb, toff, hta, htc⟩ := htv
                      obtain ⟨sb, soff, su, hsa, hsz, hsc, hsi⟩ := HSR.out k y hy
                      obtain ⟨ua, uc, rfl, _, hur⟩ := hsi
                      subst hta hsa
                      obtain ⟨_, _, bb, boff, rfl, hbb, x0, x1⟩ := (HMD.out _ HG7.out.below).1.boxes k b hb
                      obtain ⟨fb, foff, rfl, hfb, y0⟩ := (HMD.out _ HG7.out.below).2.rows k y.feed l1
                      have hz7 := HG7.out.below.size
                      have hz57 := H57.out.size
                      have htz := World.block_lt_of_cell? w5 _ htc
                      have hRz := lt_of_block HR7.out
                      have HG8 := Sb.hide (HG7.out.alloc (.cells #[.int .i64 b.ty, .int .i64 b.cap] 37))
                      have H58 : Hid (Below w5.heap.size w5 (wr.alloc (.cells #[.int .i64 b.ty, .int .i64 b.cap] 37))) := H57.out.alloc H57.out.size _
                      have HB8 : Hid (Below W6.heap.size W6 (wr.alloc (.cells #[.int .i64 b.ty, .int .i64 b.cap] 37))) := HB7.out.alloc HB7.out.size _
                      have y1 : (wr.alloc (.cells #[.int .i64 b.ty, .int .i64 b.cap] 37)).cell? ⟨fb, foff + k, none⟩ = some (.slice (fa k) y.feed.length (fc k)) := (cell_eq (Below.heap_alloc _ _ _ (by omega)) _).trans y0
                      have r8 := (rep_cells ((Below.heap_alloc wr (.cells #[.int .i64 b.ty, .int .i64 b.cap] 37) _ hRz).trans HR7.out)).1
                      have t8 : (wr.alloc (.cells #[.int .i64 b.ty, .int .i64 b.cap] 37)).cell? ⟨tb, toff + k, none⟩ = some (.int .i64 (y.took : Int)) := (cell_eq (H58.out.block tb htz) _).trans htc
                      have s8 : (wr.alloc (.cells #[.int .i64 b.ty, .int .i64 b.cap] 37)).cell? ⟨sb, soff + k, none⟩ = some (.slice ua y.sent.length uc) := (cell_eq (H58.out.block sb hsz) _).trans hsc
                      have z1 : (wr.alloc (.cells #[.int .i64 b.ty, .int .i64 b.cap] 37)).cell? ⟨wr.heap.size, 0, none⟩ = some (.int .i64 b.ty) := by simp [World.cell?_alloc_mark]
                      have HUR : Hid (∀ (j : Nat) v, y.sent[j]? = some v → ∃ b2 off2, ua = some ⟨b2, off2, none⟩ ∧ (wr.alloc (.cells #[.int .i64 b.ty, .int .i64 b.cap] 37)).cell? ⟨b2, off2 + j, none⟩ = some (.int .i64 v)) := fun j v hv => by
                        obtain ⟨b2, off2, e, hc⟩ := hur j v hv
                        exact ⟨b2, off2, e, (cell_eq (H58.out.block b2 (World.block_lt_of_cell? w5 _ hc)) _).trans hc⟩
                      have hsl : y.sent.length ≤ 5000 := HF5.out.2.2.1 y (List.mem_of_getElem? hy)
                      obtain ⟨r80, r81, r82, r83, r84, r85, r86⟩ := r8
                      obtain ⟨ml, hml⟩ : ∃ m', m' = m.boxes.length := ⟨_, rfl⟩
                      rw [← hml] at hlt hbl hk r84 r85 ⊢
                      have HML := Sb.hide hml
                      have n0 : (0 : Int) ≤ (k : Int) := by omega
                      have n1 : (k : Int) < (ml : Int) := by omega
                      have dt1 : decide ((y.took : Int) < 0) = false := by simp
                      have dt2 : decide ((y.feed.length : Int) < (y.took : Int)) = false := by simp; omega
                      have dt3 : ¬ y.feed.length < y.took := by omega
                      clear hml hb hy l1 l3 l4 hbt htc hsc hur
                      go_wp2
                      generalize wr.alloc (.cells #[.int .i64 b.ty, .int .i64 b.cap] 37) = W8 at *
                      generalize wr.heap.size = NB at *
                      clear x0 x1 y0
                      go_quiet (fail)
                      go_wp2
                      clear r80 r81 r82 r83 r84 r85 r86 t8 s8 y1
                      go_loopw [163] (fun v wr => ∃ j d : Nat, v = .int .i64 j ∧ j ≤ y.sent.length ∧ wr = W8.drewN d) (fun v _ => y.sent.length - (intOf v).toNat)
                      case atStart => exact ⟨0, _, rfl, Nat.zero_le _, rfl⟩
                      case round =>
                        obtain ⟨j, d, rfl, hj, rfl⟩ := hrel
                        by_cases hjl : j < y.sent.length
                        · obtain ⟨v, hv⟩ : ∃ v, y.sent[j]? = some v := ⟨_, List.getElem?_eq_getElem hjl⟩
                          obtain ⟨vb, voff, hva, hvc⟩ := HUR.out j v hv
                          have HVT : Hid (b.ty = 2 → v = 0 ∨ v = 1) := fun h2 => truth_iff.1 (List.all_eq_true.1 (HL4.out h2).2 v (List.mem_of_getElem? hv))
                          obtain ⟨fl, hfl2⟩ : ∃ l, l = y.sent.length := ⟨_, rfl⟩
                          have HFLL := Sb.hide hfl2
                          rw [hva, ← hfl2]
                          rw [← hfl2] at hjl hsl hj
                          have m0 : (0 : Int) ≤ (j : Int) := by omega
                          have m1 : (j : Int) < (fl : Int) := by omega
                          clear hv hfl2
                          by_cases h2 : b.ty = 2
                          · have e6 : (b.ty == 2) = true := by simpa using h2
                            have v01 := HVT.out h2
                            clear h2
                            rcases v01 with rfl | rfl
                            · go_wp2
                              go_roundw
                              case rel => exact ⟨j + 1, d, by go_num, by have := HFLL.out; omega, (by first | rfl | trivial)⟩
                              case measure => simp [intOf]; omega
                            · go_wp2
                              go_roundw
                              case rel => exact ⟨j + 1, d, by go_num, by have := HFLL.out; omega, (by first | rfl | trivial)⟩
                              case measure => simp [intOf]; omega
                          · have e6 : (b.ty == 2) = false := by simpa using h2
                            clear h2
                            go_wp2
                            go_roundw
                            case rel => exact ⟨j + 1, d, by go_num, by have := HFLL.out; omega, (by first | rfl | trivial)⟩
                            case measure => simp [intOf]; omega
                        · have njl : ¬ (j : Int) < (y.sent.length : Int) := by omega
                          go_wp2
                          go_roundw
                          case rel => exact ⟨k + 1, by go_num, by have := HML.out; omega, below_drewN HB8.out d⟩
                          case measure => simp [intOf]; omega
                    · have ek : k = m.boxes.length := by omega
                      subst ek
                      obtain ⟨r80, r81, r82, r83, r84, r85, r86⟩ := (rep_cells HR7.out).1
                      rcases HST5.out with ⟨h1, h2⟩ | ⟨h1, y, f, hy, hf, h2⟩ | h1 | h1
                      · have HSM : Hid ((st : Int) = most) := by unfold Hid; rw [HSE.out]; exact h2
                        have es : ((st : Int) == most) = true := by have := HSM.out; simpa using this
                        have e81 : ((s : Int) == 3) = false := by simp; omega
                        have e82 : ((s : Int) == 1) = true := by simp; omega
                        clear h1 h2
                        go_wp2
                        go_ret
                        exact ⟨by first | rfl | simp [es], HG7.out.below⟩
                      · have e81 : ((s : Int) == 3) = true := by simp; omega
                        obtain ⟨tb, toff, hta, htc⟩ := HTR.out q (y.took : Int) (by rw [List.getElem?_map, hy]; rfl)
                        obtain ⟨fb, foff, hfa, hfb, y0⟩ := (HMD.out _ HG7.out.below).2.rows q f hf
                        have hql : q < m.boxes.length := by have := (List.getElem?_eq_some_iff.1 hy).1; have := HXL.out; omega
                        have t8 : wr.cell? ⟨tb, toff + q, none⟩ = some (.int .i64 (y.took : Int)) := (cell_eq (H57.out.block tb (World.block_lt_of_cell? w5 _ htc)) _).trans htc
                        rw [hta] at r85
                        rw [hfa]
                        have n0 : (0 : Int) ≤ (q : Int) := by omega
                        have n1 : (q : Int) < (m.boxes.length : Int) := by omega
                        have etk : ((y.took : Int) == (f.length : Int)) = true := by simp; omega
                        clear h1 h2 hy hf htc hta
                        go_wp2
                        go_quiet (fail)
                        go_wp2
                        go_ret
                        exact ⟨by first | rfl | simp [etk], below_drewN HG7.out.below _⟩
                      · have e81 : ((s : Int) == 3) = false := by simp; omega
                        have e82 : ((s : Int) == 1) = false := by simp; omega
                        have e83 : ((s : Int) == 4) = true := by simp; omega
                        clear h1
                        go_wp2
                        go_ret
                        exact ⟨rfl, HG7.out.below⟩
                      · have e81 : ((s : Int) == 3) = false := by simp; omega
                        have e82 : ((s : Int) == 1) = false := by simp; omega
                        have e83 : ((s : Int) == 4) = false := by simp; omega
                        have e84 : ((s : Int) == 5) = true := by simp; omega
                        clear h1
                        go_wp2
                        go_ret
                        exact ⟨rfl, HG7.out.below⟩
            · have e5 : ((fs.length : Int) != (m.boxes.length : Int)) = true := by simp; omega
              go_wp2
              go_ret
              exact ⟨rfl, HG3.out.below⟩
          · have e1 : (ve.1 == 0) = true := by simpa using g1
            have e2 : (ve.2.1 == 0) = true := by simpa using g2
            have e3 : (ve.2.2 == 0) = false := by simpa using g3
            clear g1 g2 g3
            go_wp2
            go_ret
            exact ⟨rfl, HG3.out.below⟩
        · have e1 : (ve.1 == 0) = true := by simpa using g1
          have e2 : (ve.2.1 == 0) = false := by simpa using g2
          clear g1 g2
          go_wp2
          go_ret
          exact ⟨rfl, HG3.out.below⟩
      · have e1 : (ve.1 == 0) = false := by simpa using g1
        clear g1
        go_wp2
        go_ret
        exact ⟨rfl, HG3.out.below⟩
end Go.Proofs.Ytnfbfdajdflfgaa.Vw

