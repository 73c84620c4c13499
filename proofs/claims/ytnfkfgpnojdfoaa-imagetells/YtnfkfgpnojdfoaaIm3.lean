/- A module in memory; the walks of unit and module. -/
import Derived.Test.YtnfkfgpnojdfoaaIm2
namespace Go.Proofs.Ytnfkfgpnojdfoaa
open Go.RowKit

def BoxesIn (B : Nat) (w : World) (l : List Im.Bx) (a : Option Addr) : Prop :=
  ∀ i x, l[i]? = some x → I64 x.ty ∧ I64 x.cap ∧ ∃ b off, a = some ⟨b, off, none⟩ ∧ Stays B w b ∧ w.cell? ⟨b, off + i * 2, none⟩ = some (.int .i64 x.ty) ∧ w.cell? ⟨b, off + i * 2 + 1, none⟩ = some (.int .i64 x.cap)
def CodeIn (B : Nat) (w : World) (l : List Im.Ins) (a : Option Addr) : Prop :=
  ∀ i x, l[i]? = some x → I64 x.op ∧ I64 x.a ∧ I64 x.n ∧ ∃ b off, a = some ⟨b, off, none⟩ ∧ Stays B w b ∧ w.cell? ⟨b, off + i * 3, none⟩ = some (.int .i64 x.op) ∧ w.cell? ⟨b, off + i * 3 + 1, none⟩ = some (.int .i64 x.a) ∧ w.cell? ⟨b, off + i * 3 + 2, none⟩ = some (.int .i64 x.n)
/-- What a unit's two rows are. -/
structure UnIn (B : Nat) (w : World) (u : Im.Un) (al ac : Option Addr) : Prop where
  nums : I64 u.kind ∧ I64 u.params ∧ I64 u.result ∧ I64 u.takes
  few : u.locals.length ≤ 9223372036854775807 ∧ u.code.length ≤ 9223372036854775807
  locals : IntsIn B w u.locals al
  code : CodeIn B w u.code ac
def UnitsIn (B : Nat) (w : World) (l : List Im.Un) (a : Option Addr) : Prop :=
  ∀ i u, l[i]? = some u → ∃ b off al cl ac cc, a = some ⟨b, off, none⟩ ∧ Stays B w b ∧ UnIn B w u al ac ∧ w.cell? ⟨b, off + i * 6, none⟩ = some (.int .i64 u.kind) ∧ w.cell? ⟨b, off + i * 6 + 1, none⟩ = some (.int .i64 u.params) ∧ w.cell? ⟨b, off + i * 6 + 2, none⟩ = some (.slice al u.locals.length cl) ∧ w.cell? ⟨b, off + i * 6 + 3, none⟩ = some (.int .i64 u.result) ∧ w.cell? ⟨b, off + i * 6 + 4, none⟩ = some (.int .i64 u.takes) ∧ w.cell? ⟨b, off + i * 6 + 5, none⟩ = some (.slice ac u.code.length cc)

theorem BoxesIn.kp {B : Nat} {w w' : World} {l : List Im.Bx} {a : Option Addr} (h : BoxesIn B w l a) (hk : Kp B w w') : BoxesIn B w' l a := fun i x hx => by
  obtain ⟨h1, h2, b, off, e, hs, c0, c1⟩ := h i x hx
  have := (hk.stays hs).2
  exact ⟨h1, h2, b, off, e, (hk.stays hs).1, (cell_eq this _).trans c0, (cell_eq this _).trans c1⟩
theorem CodeIn.kp {B : Nat} {w w' : World} {l : List Im.Ins} {a : Option Addr} (h : CodeIn B w l a) (hk : Kp B w w') : CodeIn B w' l a := fun i x hx => by
  obtain ⟨h1, h2, h3, b, off, e, hs, c0, c1, c2⟩ := h i x hx
  have := (hk.stays hs).2
  exact ⟨h1, h2, h3, b, off, e, (hk.stays hs).1, (cell_eq this _).trans c0, (cell_eq this _).trans c1, (cell_eq this _).trans c2⟩
theorem UnIn.kp {B : Nat} {w w' : World} {u : Im.Un} {al ac : Option Addr} (h : UnIn B w u al ac) (hk : Kp B w w') : UnIn B w' u al ac := ⟨h.nums, h.few, h.locals.kp hk, h.code.kp hk⟩
theorem UnitsIn.kp {B : Nat} {w w' : World} {l : List Im.Un} {a : Option Addr} (h : UnitsIn B w l a) (hk : Kp B w w') : UnitsIn B w' l a := fun i x hx => by
  obtain ⟨b, off, al, cl, ac, cc, e, hs, hu, c0, c1, c2, c3, c4, c5⟩ := h i x hx
  have := (hk.stays hs).2
  exact ⟨b, off, al, cl, ac, cc, e, (hk.stays hs).1, hu.kp hk, (cell_eq this _).trans c0, (cell_eq this _).trans c1, (cell_eq this _).trans c2, (cell_eq this _).trans c3, (cell_eq this _).trans c4, (cell_eq this _).trans c5⟩

/-- Numbers in a new row. -/
theorem ints_new {B q : Nat} {w : World} {l : List Int} {fr : Nat × Nat} (hq : w.heap[q]? = some (.cells (l.map (Value.int .i64)).toArray 3 fr)) (h64 : ∀ x ∈ l, I64 x) : IntsIn B w l (some ⟨q, 0, none⟩) := fun i x hx => by
  refine ⟨h64 x (List.mem_of_getElem? hx), q, 0, rfl, .inr ⟨_, _, _, hq, by decide, by decide⟩, ?_⟩
  simp [World.cell?, hq, hx]

theorem ints1_any (B S q : Nat) (x : Int) (hx : Hid (I64 x)) (xs : List Nat) (w : World) (hq : w.heap[q]? = some (.cells #[.int .i64 x] 3 (0, 0))) (h : Hid (WR w B S xs)) (nb : List Nat) (hnb : Hid (nb = Im.nums [x])) :
    Calls Try.prog 27 #[.pointer (some ⟨S, 0, none⟩), .slice (some ⟨q, 0, none⟩) 1 1] w fun e w' => Wrote B S xs nb w e w' :=
  ints_any B S [x] (some ⟨q, 0, none⟩) 1 (by simp) xs w (hide (ints_new hq (by simpa using hx.out))) h nb hnb
theorem ints2_any (B S q : Nat) (x y : Int) (hx : Hid (I64 x ∧ I64 y)) (xs : List Nat) (w : World) (hq : w.heap[q]? = some (.cells #[.int .i64 x, .int .i64 y] 3 (0, 0))) (h : Hid (WR w B S xs)) (nb : List Nat) (hnb : Hid (nb = Im.nums [x, y])) :
    Calls Try.prog 27 #[.pointer (some ⟨S, 0, none⟩), .slice (some ⟨q, 0, none⟩) 2 2] w fun e w' => Wrote B S xs nb w e w' :=
  ints_any B S [x, y] (some ⟨q, 0, none⟩) 2 (by simp) xs w (hide (ints_new hq (by intro z hz; simp at hz; rcases hz with rfl | rfl; exact hx.out.1; exact hx.out.2))) h nb hnb
theorem ints3_any (B S q : Nat) (x y z : Int) (hx : Hid (I64 x ∧ I64 y ∧ I64 z)) (xs : List Nat) (w : World) (hq : w.heap[q]? = some (.cells #[.int .i64 x, .int .i64 y, .int .i64 z] 3 (0, 0))) (h : Hid (WR w B S xs)) (nb : List Nat) (hnb : Hid (nb = Im.nums [x, y, z])) :
    Calls Try.prog 27 #[.pointer (some ⟨S, 0, none⟩), .slice (some ⟨q, 0, none⟩) 3 3] w fun e w' => Wrote B S xs nb w e w' :=
  ints_any B S [x, y, z] (some ⟨q, 0, none⟩) 3 (by simp) xs w (hide (ints_new hq (by intro z hz; simp at hz; rcases hz with rfl | rfl | rfl; exact hx.out.1; exact hx.out.2.1; exact hx.out.2.2))) h nb hnb

theorem flat_take {α : Type} (f : α → List Nat) {l : List α} {k : Nat} {x : α} (h : l[k]? = some x) : l.flatMap f = (l.take k).flatMap f ++ f x ++ (l.drop (k + 1)).flatMap f := by
  obtain ⟨hk, rfl⟩ := List.getElem?_eq_some_iff.1 h
  conv => lhs; rw [← List.take_append_drop k l, List.drop_eq_getElem_cons hk]
  simp only [List.flatMap_append, List.flatMap_cons, List.append_assoc]
theorem flat_next {α : Type} (f : α → List Nat) {l : List α} {k : Nat} {x : α} (h : l[k]? = some x) : (l.take (k + 1)).flatMap f = (l.take k).flatMap f ++ f x := by
  obtain ⟨hk, rfl⟩ := List.getElem?_eq_some_iff.1 h
  rw [List.take_succ_eq_append_getElem hk]
  simp only [List.flatMap_append, List.flatMap_cons, List.flatMap_nil, List.append_nil]

theorem alloc_at (w : World) (o : Obj) : (w.alloc o).heap[w.heap.size]? = some o := heap_alloc_new w o
theorem alloc_at2 (w : World) (o p : Obj) : ((w.alloc o).alloc p).heap[w.heap.size + 1]? = some p := by
  have := heap_alloc_new (w.alloc o) p
  simpa using this
theorem alloc_at1 (w : World) (o p : Obj) : ((w.alloc o).alloc p).heap[w.heap.size]? = some o := by
  rw [Below.heap_alloc _ _ _ (by simp)]
  exact heap_alloc_new w o

abbrev unO (u : Im.Un) (al ac : Option Addr) (cl cc : Nat) : Obj := .cells #[.int .i64 u.kind, .int .i64 u.params, .slice al u.locals.length cl, .int .i64 u.result, .int .i64 u.takes, .slice ac u.code.length cc] 52 (0, 0)
theorem un_cells {w : World} {N : Nat} {u : Im.Un} {al ac : Option Addr} {cl cc : Nat} (h : w.heap[N]? = some (unO u al ac cl cc)) :
    w.cell? ⟨N, 0, none⟩ = some (.int .i64 u.kind) ∧ w.cell? ⟨N, 1, none⟩ = some (.int .i64 u.params) ∧ w.cell? ⟨N, 2, none⟩ = some (.slice al u.locals.length cl) ∧ w.cell? ⟨N, 3, none⟩ = some (.int .i64 u.result) ∧ w.cell? ⟨N, 4, none⟩ = some (.int .i64 u.takes) ∧ w.cell? ⟨N, 5, none⟩ = some (.slice ac u.code.length cc) := by
  simp [World.cell?, h]
theorem in_cells {w : World} {N : Nat} {x : Im.Ins} (h : w.heap[N]? = some (.cells #[.int .i64 x.op, .int .i64 x.a, .int .i64 x.n] 54 (0, 0))) : w.cell? ⟨N, 2, none⟩ = some (.int .i64 x.n) := by
  simp [World.cell?, h]

/-- What holds between two writings. -/
structure UAt (B S : Nat) (xs : List Nat) (N : Nat) (o : Obj) (w : World) (ys : List Nat) (W : World) : Prop where
  kp : Kp B w W
  own : W.heap[N]? = some o
  wr : WR W B S (xs ++ ys)

theorem UAt.next {B S N : Nat} {xs ys zs : List Nat} {cs : Array Value} {t : TypeId} {fr : Nat × Nat} {w W W1 w2 : World} {e : Ending} (h : UAt B S xs N (.cells cs t fr) w ys W) (h1 : t ≠ 5) (h2 : t ≠ 40) (hk : Kp B W W1) (hw : Wrote B S (xs ++ ys) zs W1 e w2) (hf : (xs ++ ys ++ zs).length ≤ 59998) : UAt B S xs N (.cells cs t fr) w (ys ++ zs) w2 :=
  ⟨(h.kp.trans hk).trans hw.kp, (hk.trans hw.kp).blk _ _ _ _ h.own h1 h2, by rw [← List.append_assoc]; exact (hw.yes hf).2⟩

structure CdAt (B S : Nat) (xs : List Nat) (N : Nat) (o : Obj) (l : List Im.Ins) (pre : List Nat) (w : World) (k : Nat) (W : World) : Prop where
  le : k ≤ l.length
  at' : UAt B S xs N o w (pre ++ (l.take k).flatMap Im.inb) W


set_option maxHeartbeats 2000000 in
theorem unit_any (B S : Nat) (u : Im.Un) (al ac : Option Addr) (cl cc : Nat) (xs : List Nat) (w : World) (hin : Hid (UnIn B w u al ac)) (h : Hid (WR w B S xs)) (nb : List Nat) (hnb : Hid (nb = Im.unb u)) :
    Calls Try.prog 28 #[.pointer (some ⟨S, 0, none⟩), .agg #[.int .i64 u.kind, .int .i64 u.params, .slice al u.locals.length cl, .int .i64 u.result, .int .i64 u.takes, .slice ac u.code.length cc]] w fun e w' => Wrote B S xs nb w e w' := by
  obtain ⟨hn1, hn2, hn3, hn4⟩ := hin.out.nums
  obtain ⟨hl1, hl2⟩ := hin.out.few
  have H1 : Hid (I64 u.kind ∧ I64 u.params ∧ I64 (u.locals.length : Int)) := ⟨hn1, hn2, by omega, by omega⟩
  have H2 : Hid (I64 u.result ∧ I64 u.takes ∧ I64 (u.code.length : Int)) := ⟨hn3, hn4, by omega, by omega⟩
  clear hn1 hn2 hn3 hn4
  have hB := h.out.base
  have hS := h.out.lt
  obtain ⟨A, hA⟩ : ∃ A, A = Im.nums [u.kind, u.params, (u.locals.length : Int)] := ⟨_, rfl⟩
  obtain ⟨L, hL⟩ : ∃ L, L = Im.nums u.locals := ⟨_, rfl⟩
  obtain ⟨R, hR⟩ : ∃ R, R = Im.nums [u.result, u.takes, (u.code.length : Int)] := ⟨_, rfl⟩
  have HN : Hid (nb = A ++ L ++ R ++ u.code.flatMap Im.inb) := by unfold Hid; rw [hnb.out, hA, hL, hR]; rfl
  have HA := hide hA
  have HL := hide hL
  have HRR := hide hR
  clear hA hL hR hnb
  have HK0 : Hid (Kp B w ((w.alloc (unO u al ac cl cc)).alloc (.cells #[.int .i64 u.kind, .int .i64 u.params, .int .i64 u.locals.length] 3))) := ((Kp.refl B w).alloc (by omega) _).alloc (by simp; omega) _
  go_enter Try.func28, Try.ntmps28
  go_wp2_with fail
  refine (ints3_any B S (w.heap.size + 1) _ _ _ H1 xs _ (alloc_at2 _ _ _) (hide ((h.out.alloc _).alloc _)) A HA).mono ?_
  rintro e w2 hw2
  by_cases hf : (xs ++ [] ++ A).length ≤ 59998
  · have hf' : (xs ++ A).length ≤ 59998 := by simpa using hf
    obtain ⟨rfl, _⟩ := hw2.yes hf'
    have HU : Hid (UAt B S xs w.heap.size (unO u al ac cl cc) w A w2) := ⟨HK0.out.trans hw2.kp, hw2.kp.blk _ _ _ _ (alloc_at1 _ _ _) (by decide) (by decide), (hw2.yes hf').2⟩
    obtain ⟨c0, c1, c2, c3, c4, c5⟩ := un_cells HU.out.own
    clear hw2 hf hf' HK0
    go_wp2_with fail
    refine (ints_any B S u.locals al cl hl1 (xs ++ A) _ (hide (hin.out.locals.kp HU.out.kp)) (hide HU.out.wr) L HL).mono ?_
    clear c0 c1 c2 c3 c4 c5
    rintro e w3 hw2
    by_cases hf : (xs ++ A ++ L).length ≤ 59998
    · obtain ⟨rfl, _⟩ := hw2.yes hf
      have HU2 : Hid (UAt B S xs w.heap.size (unO u al ac cl cc) w (A ++ L) w3) := HU.out.next (by decide) (by decide) (Kp.refl _ _) hw2 hf
      obtain ⟨c0, c1, c2, c3, c4, c5⟩ := un_cells HU2.out.own
      clear hw2 hf HU
      have hB3 : B ≤ w3.heap.size := by have := HU2.out.wr.lt; omega
      have HK1 : Hid (Kp B w3 (w3.alloc (.cells #[.int .i64 u.result, .int .i64 u.takes, .int .i64 u.code.length] 3))) := (Kp.refl B _).alloc hB3 _
      go_wp2_with fail
      refine (ints3_any B S w3.heap.size _ _ _ H2 (xs ++ (A ++ L)) _ (alloc_at _ _) (hide (HU2.out.wr.alloc _)) R HRR).mono ?_
      clear c0 c1 c2 c3 c4 c5
      rintro e w4 hw2
      by_cases hf : (xs ++ (A ++ L) ++ R).length ≤ 59998
      · obtain ⟨rfl, _⟩ := hw2.yes hf
        have HU3 : Hid (UAt B S xs w.heap.size (unO u al ac cl cc) w (A ++ L ++ R) w4) := HU2.out.next (by decide) (by decide) HK1.out hw2 hf
        obtain ⟨c0, c1, c2, c3, c4, c5⟩ := un_cells HU3.out.own
        clear hw2 hf HU2 HK1 hB3 HA HL HRR H1 H2
        generalize A ++ L ++ R = pre at *
        go_wp2
        clear c0 c1 c2 c3 c4 c5
        go_loopw [33] (fun i wr => ∃ k : Nat, i = .int .i64 k ∧ CdAt B S xs w.heap.size (unO u al ac cl cc) u.code pre w k wr) (fun i _ => u.code.length - (intOf i).toNat)
        case atStart => exact ⟨0, rfl, Nat.zero_le _, by simpa using HU3.out⟩
        case round =>
          obtain ⟨k, rfl, hC⟩ := hrel
          have HC := hide hC
          have hk := hC.le
          clear hC HU3
          by_cases hlt : k < u.code.length
          · obtain ⟨x, hx⟩ : ∃ x, u.code[k]? = some x := ⟨_, List.getElem?_eq_getElem hlt⟩
            obtain ⟨i1, i2, i3, b, off, he, _, c0, c1, c2⟩ := hin.out.code.kp HC.out.at'.kp k x hx
            have HX := hide hx
            have H3 : Hid (I64 x.op ∧ I64 x.a) := ⟨i1, i2⟩
            have H4 : Hid (I64 x.n) := i3
            have hBr : B ≤ wr.heap.size := by have := HC.out.at'.wr.lt; omega
            clear hx i1 i2 i3
            subst he
            obtain ⟨ys, hys⟩ : ∃ ys, ys = pre ++ (u.code.take k).flatMap Im.inb := ⟨_, rfl⟩
            have HU : Hid (UAt B S xs w.heap.size (unO u al (some ⟨b, off, none⟩) cl cc) w ys wr) := by rw [hys]; exact HC.out.at'
            have HNX : Hid (nb = ys ++ (Im.nums [x.op, x.a] ++ Im.num x.n) ++ (u.code.drop (k + 1)).flatMap Im.inb) := by
              unfold Hid; rw [HN.out, flat_take Im.inb HX.out, hys]; simp only [Im.inb, List.append_assoc]
            have HYS : Hid (pre ++ (u.code.take (k + 1)).flatMap Im.inb = ys ++ Im.nums [x.op, x.a] ++ Im.num x.n) := by
              unfold Hid; rw [flat_next Im.inb HX.out, hys]; simp only [Im.inb, List.append_assoc]
            clear hys HC
            obtain ⟨P, hP⟩ : ∃ P, P = Im.nums [x.op, x.a] := ⟨_, rfl⟩
            rw [← hP] at HNX HYS
            have HP := hide hP
            clear hP
            obtain ⟨Q, hQ⟩ : ∃ Q, Q = Im.num x.n := ⟨_, rfl⟩
            rw [← hQ] at HNX HYS
            have HQ := hide hQ
            clear hQ
            have HK1 : Hid (Kp B wr ((wr.alloc (.cells #[.int .i64 x.op, .int .i64 x.a, .int .i64 x.n] 54)).alloc (.cells #[.int .i64 x.op, .int .i64 x.a] 3))) := ((Kp.refl B wr).alloc hBr _).alloc (by simp; omega) _
            go_wp2_with fail
            refine (ints2_any B S (wr.heap.size + 1) _ _ H3 (xs ++ ys) _ (alloc_at2 _ _ _) (hide ((HU.out.wr.alloc _).alloc _)) P HP).mono ?_
            clear c0 c1 c2
            rintro e w5 hw2
            by_cases hf : (xs ++ ys ++ P).length ≤ 59998
            · obtain ⟨rfl, _⟩ := hw2.yes hf
              have HU4 : Hid (UAt B S xs w.heap.size (unO u al (some ⟨b, off, none⟩) cl cc) w (ys ++ P) w5) := HU.out.next (by decide) (by decide) HK1.out hw2 hf
              have c2 := in_cells (x := x) (hw2.kp.blk _ _ _ _ (alloc_at1 _ _ _) (by decide) (by decide))
              clear hw2 hf HU HK1
              go_wp2_with fail
              refine (number_any B S x.n H4 (xs ++ (ys ++ P)) _ (hide HU4.out.wr) Q HQ).mono ?_
              clear c2
              rintro e w6 hw2
              by_cases hf : (xs ++ (ys ++ P) ++ Q).length ≤ 59998
              · obtain ⟨rfl, _⟩ := hw2.yes hf
                have HU5 : Hid (CdAt B S xs w.heap.size (unO u al (some ⟨b, off, none⟩) cl cc) u.code pre w (k + 1) w6) := ⟨hlt, by rw [HYS.out]; exact HU4.out.next (by decide) (by decide) (Kp.refl _ _) hw2 hf⟩
                clear hw2 hf HU4
                go_wp2
                go_roundw
                case rel => exact ⟨k + 1, by go_num, HU5.out⟩
                case measure => simp [intOf]; omega
              · skip
                obtain rfl := hw2.no hf
                have HR : Hid (Wrote B S xs nb w (.panicked [fltE 4 0]) w6) := hw2.stop (us := (u.code.drop (k + 1)).flatMap Im.inb) (HU4.out.kp) ((by rw [HNX.out]; simp only [List.append_assoc])) hf
                clear hw2
                go_wp2
                exact ⟨rfl, HR.out⟩
            · skip
              obtain rfl := hw2.no hf
              have HR : Hid (Wrote B S xs nb w (.panicked [fltE 4 0]) w5) := hw2.stop (us := Q ++ (u.code.drop (k + 1)).flatMap Im.inb) ((HU.out.kp.trans HK1.out)) ((by rw [HNX.out]; simp only [List.append_assoc])) hf
              clear hw2
              go_wp2
              exact ⟨rfl, HR.out⟩
          · obtain rfl : k = u.code.length := by omega
            have HR : Hid (UAt B S xs w.heap.size (unO u al ac cl cc) w nb wr) := by have := HC.out.at'; rw [List.take_length, ← HN.out] at this; exact this
            go_wp2
            go_end0
            exact ⟨HR.out.kp, fun _ => ⟨rfl, HR.out.wr⟩, fun h1 => absurd HR.out.wr.few h1⟩
      · skip
        obtain rfl := hw2.no hf
        have HR : Hid (Wrote B S xs nb w (.panicked [fltE 4 0]) w4) := hw2.stop (us := u.code.flatMap Im.inb) ((HU2.out.kp.trans HK1.out)) ((by rw [HN.out])) hf
        clear hw2
        go_wp2
        exact ⟨rfl, HR.out⟩
    · skip
      obtain rfl := hw2.no hf
      have HR : Hid (Wrote B S xs nb w (.panicked [fltE 4 0]) w3) := hw2.stop (us := R ++ u.code.flatMap Im.inb) (HU.out.kp) ((by rw [HN.out]; simp only [List.append_assoc])) hf
      clear hw2
      go_wp2
      exact ⟨rfl, HR.out⟩
  · have hf' : ¬ (xs ++ A).length ≤ 59998 := by simpa using hf
    obtain rfl := hw2.no hf'
    have HR : Hid (Wrote B S xs nb w (.panicked [fltE 4 0]) w2) := ⟨HK0.out.trans hw2.kp, fun h1 => absurd (by rw [HN.out] at h1; simp at h1 ⊢; omega) hf', fun _ => rfl⟩
    clear hw2
    go_wp2
    exact ⟨rfl, HR.out⟩

end Go.Proofs.Ytnfkfgpnojdfoaa
