/- The walk of writer.module. -/
import Derived.Test.YtnfkfgpnojdfoaaIm3
namespace Go.Proofs.Ytnfkfgpnojdfoaa
open Go.RowKit

structure ModIn (B : Nat) (w : World) (m : Im.Md) (ab au : Option Addr) : Prop where
  few : m.boxes.length ≤ 9223372036854775807 ∧ m.units.length ≤ 9223372036854775807
  boxes : BoxesIn B w m.boxes ab
  units : UnitsIn B w m.units au
theorem ModIn.kp {B : Nat} {w w' : World} {m : Im.Md} {ab au : Option Addr} (h : ModIn B w m ab au) (hk : Kp B w w') : ModIn B w' m ab au := ⟨h.few, h.boxes.kp hk, h.units.kp hk⟩

abbrev mdO (m : Im.Md) (ab au : Option Addr) (cb cu : Nat) : Obj := .cells #[.slice ab m.boxes.length cb, .slice au m.units.length cu] 25 (0, 0)
theorem md_cells {w : World} {N : Nat} {m : Im.Md} {ab au : Option Addr} {cb cu : Nat} (h : w.heap[N]? = some (mdO m ab au cb cu)) :
    w.cell? ⟨N, 0, none⟩ = some (.slice ab m.boxes.length cb) ∧ w.cell? ⟨N, 1, none⟩ = some (.slice au m.units.length cu) := by
  simp [World.cell?, h]

structure RwAt {α : Type} (f : α → List Nat) (B S : Nat) (xs : List Nat) (N : Nat) (o : Obj) (l : List α) (pre : List Nat) (w : World) (k : Nat) (W : World) : Prop where
  le : k ≤ l.length
  at' : UAt B S xs N o w (pre ++ (l.take k).flatMap f) W


set_option maxHeartbeats 2000000 in
theorem module_any (B S : Nat) (m : Im.Md) (ab au : Option Addr) (cb cu : Nat) (xs : List Nat) (w : World) (hin : Hid (ModIn B w m ab au)) (h : Hid (WR w B S xs)) (nb : List Nat) (hnb : Hid (nb = Im.body m)) :
    Calls Try.prog 17 #[.pointer (some ⟨S, 0, none⟩), .agg #[.slice ab m.boxes.length cb, .slice au m.units.length cu]] w fun e w' => Wrote B S xs nb w e w' := by
  obtain ⟨hl1, hl2⟩ := hin.out.few
  have H1 : Hid (I64 (m.boxes.length : Int)) := ⟨by omega, by omega⟩
  have H2 : Hid (I64 (m.units.length : Int)) := ⟨by omega, by omega⟩
  have hB := h.out.base
  have hS := h.out.lt
  obtain ⟨A, hA⟩ : ∃ A, A = Im.nums [(m.boxes.length : Int)] := ⟨_, rfl⟩
  obtain ⟨R, hR⟩ : ∃ R, R = Im.nums [(m.units.length : Int)] := ⟨_, rfl⟩
  have HN : Hid (nb = A ++ m.boxes.flatMap Im.bxb ++ R ++ m.units.flatMap Im.unb) := by unfold Hid; rw [hnb.out, hA, hR]; rfl
  have HA := hide hA
  have HRR := hide hR
  clear hA hR hnb
  have HK0 : Hid (Kp B w ((w.alloc (mdO m ab au cb cu)).alloc (.cells #[.int .i64 m.boxes.length] 3))) := ((Kp.refl B w).alloc (by omega) _).alloc (by simp; omega) _
  go_enter Try.func17, Try.ntmps17
  go_wp2_with fail
  refine (ints1_any B S (w.heap.size + 1) _ H1 xs _ (alloc_at2 _ _ _) (hide ((h.out.alloc _).alloc _)) A HA).mono ?_
  rintro e w2 hw2
  by_cases hf : (xs ++ A).length ≤ 59998
  · obtain ⟨rfl, _⟩ := hw2.yes hf
    have HU : Hid (UAt B S xs w.heap.size (mdO m ab au cb cu) w A w2) := ⟨HK0.out.trans hw2.kp, hw2.kp.blk _ _ _ _ (alloc_at1 _ _ _) (by decide) (by decide), (hw2.yes hf).2⟩
    obtain ⟨c0, c1⟩ := md_cells HU.out.own
    clear hw2 hf HK0
    go_wp2
    clear c0 c1
    go_loopw [17] (fun i wr => ∃ k : Nat, i = .int .i64 k ∧ RwAt Im.bxb B S xs w.heap.size (mdO m ab au cb cu) m.boxes A w k wr) (fun i _ => m.boxes.length - (intOf i).toNat)
    case atStart => exact ⟨0, rfl, Nat.zero_le _, by simpa using HU.out⟩
    case round =>
      obtain ⟨k, rfl, hC⟩ := hrel
      have HC := hide hC
      have hk := hC.le
      clear hC HU
      by_cases hlt : k < m.boxes.length
      · obtain ⟨x, hx⟩ : ∃ x, m.boxes[k]? = some x := ⟨_, List.getElem?_eq_getElem hlt⟩
        obtain ⟨i1, i2, b, off, he, _, c0, c1⟩ := hin.out.boxes.kp HC.out.at'.kp k x hx
        have HX := hide hx
        have H3 : Hid (I64 x.ty ∧ I64 x.cap) := ⟨i1, i2⟩
        have hBr : B ≤ wr.heap.size := by have := HC.out.at'.wr.lt; omega
        clear hx i1 i2
        subst he
        obtain ⟨ys, hys⟩ : ∃ ys, ys = A ++ (m.boxes.take k).flatMap Im.bxb := ⟨_, rfl⟩
        have HU : Hid (UAt B S xs w.heap.size (mdO m (some ⟨b, off, none⟩) au cb cu) w ys wr) := by rw [hys]; exact HC.out.at'
        have HNX : Hid (nb = ys ++ Im.bxb x ++ ((m.boxes.drop (k + 1)).flatMap Im.bxb ++ (R ++ m.units.flatMap Im.unb))) := by
          unfold Hid; rw [HN.out, flat_take Im.bxb HX.out, hys]; simp only [List.append_assoc]
        have HYS : Hid (A ++ (m.boxes.take (k + 1)).flatMap Im.bxb = ys ++ Im.bxb x) := by
          unfold Hid; rw [flat_next Im.bxb HX.out, hys]; simp only [List.append_assoc]
        clear hys HC
        obtain ⟨P, hP⟩ : ∃ P, P = Im.bxb x := ⟨_, rfl⟩
        rw [← hP] at HNX HYS
        have HP : Hid (P = Im.nums [x.ty, x.cap]) := hP
        clear hP
        have HK1 : Hid (Kp B wr ((wr.alloc (.cells #[.int .i64 x.ty, .int .i64 x.cap] 48)).alloc (.cells #[.int .i64 x.ty, .int .i64 x.cap] 3))) := ((Kp.refl B wr).alloc hBr _).alloc (by simp; omega) _
        go_wp2_with fail
        refine (ints2_any B S (wr.heap.size + 1) _ _ H3 (xs ++ ys) _ (alloc_at2 _ _ _) (hide ((HU.out.wr.alloc _).alloc _)) P HP).mono ?_
        clear c0 c1
        rintro e w5 hw2
        by_cases hf : (xs ++ ys ++ P).length ≤ 59998
        · obtain ⟨rfl, _⟩ := hw2.yes hf
          have HU5 : Hid (RwAt Im.bxb B S xs w.heap.size (mdO m (some ⟨b, off, none⟩) au cb cu) m.boxes A w (k + 1) w5) := ⟨hlt, by rw [HYS.out]; exact HU.out.next (by decide) (by decide) HK1.out hw2 hf⟩
          clear hw2 hf HU
          go_wp2
          go_roundw
          case rel => exact ⟨k + 1, by go_num, HU5.out⟩
          case measure => simp [intOf]; omega
        · skip
          obtain rfl := hw2.no hf
          have HR : Hid (Wrote B S xs nb w (.panicked [fltE 4 0]) w5) := hw2.stop (us := (m.boxes.drop (k + 1)).flatMap Im.bxb ++ (R ++ m.units.flatMap Im.unb)) ((HU.out.kp.trans HK1.out)) ((by rw [HNX.out])) hf
          clear hw2
          go_wp2
          exact ⟨rfl, HR.out⟩
      · obtain rfl : k = m.boxes.length := by omega
        have HU0 : Hid (UAt B S xs w.heap.size (mdO m ab au cb cu) w (A ++ m.boxes.flatMap Im.bxb) wr) := by have := HC.out.at'; rw [List.take_length] at this; exact this
        clear HC
        generalize A ++ m.boxes.flatMap Im.bxb = pre at *
        obtain ⟨c0, c1⟩ := md_cells HU0.out.own
        have hBr : B ≤ wr.heap.size := by have := HU0.out.wr.lt; omega
        have HK1 : Hid (Kp B wr (wr.alloc (.cells #[.int .i64 m.units.length] 3))) := (Kp.refl B wr).alloc hBr _
        go_wp2_with fail
        refine (ints1_any B S wr.heap.size _ H2 (xs ++ pre) _ (alloc_at _ _) (hide (HU0.out.wr.alloc _)) R HRR).mono ?_
        clear c0 c1
        rintro e w3 hw2
        by_cases hf : (xs ++ pre ++ R).length ≤ 59998
        · obtain ⟨rfl, _⟩ := hw2.yes hf
          have HU : Hid (UAt B S xs w.heap.size (mdO m ab au cb cu) w (pre ++ R) w3) := HU0.out.next (by decide) (by decide) HK1.out hw2 hf
          obtain ⟨c0, c1⟩ := md_cells HU.out.own
          clear hw2 hf HU0 HK1 hBr
          generalize pre ++ R = pre2 at *
          go_wp2
          clear c0 c1
          generalize wr.heap.size = NN at *
          go_loopw [38] (fun i wr => ∃ k : Nat, i = .int .i64 k ∧ RwAt Im.unb B S xs w.heap.size (mdO m ab au cb cu) m.units pre2 w k wr) (fun i _ => m.units.length - (intOf i).toNat)
          case atStart => exact ⟨0, rfl, Nat.zero_le _, by simpa using HU.out⟩
          case round =>
            obtain ⟨k, rfl, hC⟩ := hrel
            have HC := hide hC
            have hk := hC.le
            clear hC HU
            by_cases hlt : k < m.units.length
            · obtain ⟨x, hx⟩ : ∃ x, m.units[k]? = some x := ⟨_, List.getElem?_eq_getElem hlt⟩
              obtain ⟨b, off, al, cl, ac, cc, he, _, hu, c0, c1, c2, c3, c4, c5⟩ := hin.out.units.kp HC.out.at'.kp k x hx
              have HX := hide hx
              have HUN := hide hu
              have hBr : B ≤ wr.heap.size := by have := HC.out.at'.wr.lt; omega
              clear hx hu
              subst he
              obtain ⟨ys, hys⟩ : ∃ ys, ys = pre2 ++ (m.units.take k).flatMap Im.unb := ⟨_, rfl⟩
              have HU : Hid (UAt B S xs w.heap.size (mdO m ab (some ⟨b, off, none⟩) cb cu) w ys wr) := by rw [hys]; exact HC.out.at'
              have HNX : Hid (nb = ys ++ Im.unb x ++ (m.units.drop (k + 1)).flatMap Im.unb) := by
                unfold Hid; rw [HN.out, flat_take Im.unb HX.out, hys]; simp only [List.append_assoc]
              have HYS : Hid (pre2 ++ (m.units.take (k + 1)).flatMap Im.unb = ys ++ Im.unb x) := by
                unfold Hid; rw [flat_next Im.unb HX.out, hys]; simp only [List.append_assoc]
              clear hys HC
              obtain ⟨P, hP⟩ : ∃ P, P = Im.unb x := ⟨_, rfl⟩
              rw [← hP] at HNX HYS
              have HP := hide hP
              clear hP
              have HK1 : Hid (Kp B wr (wr.alloc (unO x al ac cl cc))) := (Kp.refl B wr).alloc hBr _
              go_wp2_with fail
              refine (unit_any B S x al ac cl cc (xs ++ ys) _ (hide (HUN.out.kp HK1.out)) (hide (HU.out.wr.alloc _)) P HP).mono ?_
              clear c0 c1 c2 c3 c4 c5
              rintro e w5 hw2
              by_cases hf : (xs ++ ys ++ P).length ≤ 59998
              · obtain ⟨rfl, _⟩ := hw2.yes hf
                have HU5 : Hid (RwAt Im.unb B S xs w.heap.size (mdO m ab (some ⟨b, off, none⟩) cb cu) m.units pre2 w (k + 1) w5) := ⟨hlt, by rw [HYS.out]; exact HU.out.next (by decide) (by decide) HK1.out hw2 hf⟩
                clear hw2 hf HU
                go_wp2
                go_roundw
                case rel => exact ⟨k + 1, by go_num, HU5.out⟩
                case measure => simp [intOf]; omega
              · skip
                obtain rfl := hw2.no hf
                have HR : Hid (Wrote B S xs nb w (.panicked [fltE 4 0]) w5) := hw2.stop (us := (m.units.drop (k + 1)).flatMap Im.unb) ((HU.out.kp.trans HK1.out)) ((by rw [HNX.out])) hf
                clear hw2
                go_wp2
                exact ⟨rfl, HR.out⟩
            · obtain rfl : k = m.units.length := by omega
              have HR : Hid (UAt B S xs w.heap.size (mdO m ab au cb cu) w nb wr) := by have := HC.out.at'; rw [List.take_length, ← HN.out] at this; exact this
              go_wp2
              go_end0
              exact ⟨HR.out.kp, fun _ => ⟨rfl, HR.out.wr⟩, fun h1 => absurd HR.out.wr.few h1⟩
        · skip
          obtain rfl := hw2.no hf
          have HR : Hid (Wrote B S xs nb w (.panicked [fltE 4 0]) w3) := hw2.stop (us := m.units.flatMap Im.unb) ((HU0.out.kp.trans HK1.out)) ((by rw [HN.out])) hf
          clear hw2
          go_wp2
          exact ⟨rfl, HR.out⟩
  · obtain rfl := hw2.no hf
    have HR : Hid (Wrote B S xs nb w (.panicked [fltE 4 0]) w2) := ⟨HK0.out.trans hw2.kp, fun h1 => absurd (by rw [HN.out] at h1; simp at h1 ⊢; omega) hf, fun _ => rfl⟩
    clear hw2
    go_wp2
    exact ⟨rfl, HR.out⟩

end Go.Proofs.Ytnfkfgpnojdfoaa
