/- Programs in memory, with more memory above them. -/
import Derived.Test.YtlnikpcoejpknaaDoorM2
import Derived.Deep.RegionHeld3
namespace Go.Proofs.YtlnikpcoejpknaaDoor
open Go.RowKit

theorem ExIn.wide {B B' : Nat} {w : World} (hB : B ≤ B') : ∀ {h : Nat} {x : Sy.Ex} {a : Option Addr}, ExIn B w h x a → ExIn B' w h x a
  | 0, _, _, hx => hx.elim
  | h + 1, _, _, hx => ⟨hx.1, hx.2.1, fun i k hk => by
    obtain ⟨b, off, a', c', e, hb, c0, c1, c2, c3, hin⟩ := hx.2.2 i k hk
    exact ⟨b, off, a', c', e, by omega, c0, c1, c2, c3, hin.wide hB⟩⟩

theorem StIn.wide {B B' : Nat} {w : World} (hB : B ≤ B') : ∀ {h : Nat} {s : Sy.St} {xa ba ea : Option Addr}, StIn B w h s xa ba ea → StIn B' w h s xa ba ea
  | 0, _, _, _, _, hx => hx.elim
  | h + 1, _, _, _, _, hx => ⟨hx.1, hx.2.1.elim fun n hn => ⟨n, hn.wide hB⟩, hx.2.2.1, hx.2.2.2.1,
    fun i k hk => by
      obtain ⟨b, off, xa', xc, ba', bc, ea', ec, e, hb, c0, c1, c2, c3, c4, c5, c6, c7, hin⟩ := hx.2.2.2.2.1 i k hk
      exact ⟨b, off, xa', xc, ba', bc, ea', ec, e, by omega, c0, c1, c2, c3, c4, c5, c6, c7, hin.wide hB⟩,
    fun i k hk => by
      obtain ⟨b, off, xa', xc, ba', bc, ea', ec, e, hb, c0, c1, c2, c3, c4, c5, c6, c7, hin⟩ := hx.2.2.2.2.2 i k hk
      exact ⟨b, off, xa', xc, ba', bc, ea', ec, e, by omega, c0, c1, c2, c3, c4, c5, c6, c7, hin.wide hB⟩⟩

theorem BodyIn.wide {B B' : Nat} {w : World} (hB : B ≤ B') {h : Nat} {l : List Sy.St} {a : Option Addr} (hx : BodyIn B w h l a) : BodyIn B' w h l a :=
  ⟨hx.1, fun i k hk => by
    obtain ⟨b, off, xa', xc, ba', bc, ea', ec, e, hb, c0, c1, c2, c3, c4, c5, c6, c7, hin⟩ := hx.2 i k hk
    exact ⟨b, off, xa', xc, ba', bc, ea', ec, e, by omega, c0, c1, c2, c3, c4, c5, c6, c7, hin.wide hB⟩⟩

theorem DfIn.wide {B B' : Nat} {w : World} (hB : B ≤ B') {d : Sy.Df} {pa ba : Option Addr} (hx : DfIn B w d pa ba) : DfIn B' w d pa ba := by
  obtain ⟨h1, h2, h3, ⟨hp, hpm⟩, h, hb⟩ := hx
  refine ⟨h1, h2, h3, ⟨hp, fun i p hi => ?_⟩, h, hb.wide hB⟩
  obtain ⟨b, off, e, hb, c0, c1, c2, z1, z2⟩ := hpm i p hi
  exact ⟨b, off, e, by omega, c0, c1, c2, z1, z2⟩

theorem DfsIn.wide {B B' : Nat} {w : World} (hB : B ≤ B') {l : List Sy.Df} {a : Option Addr} (hx : DfsIn B w l a) : DfsIn B' w l a :=
  ⟨hx.1, fun i d hd => by
    obtain ⟨b, off, pa, pc, ba, bc, ha, hb, c0, c1, c2, c3, c4, c5, c6, c7, c8, hin⟩ := hx.2 i d hd
    exact ⟨b, off, pa, pc, ba, bc, ha, by omega, c0, c1, c2, c3, c4, c5, c6, c7, c8, hin.wide hB⟩⟩

end Go.Proofs.YtlnikpcoejpknaaDoor

/- The walk of ref2.sameExpr, of two that are alike. -/
namespace Go.Proofs.YtlnikpcoejpknaaDoor
open Go.RowKit

theorem sx_str (a : ByteArray) : (a != a) = false := by
  cases a with
  | mk x =>
    have : ((⟨x⟩ : ByteArray) == ⟨x⟩) = (x == x) := rfl
    simp [bne, this]
theorem hideX {p : Prop} (h : p) : Hid p := h
abbrev sxO (x : Sy.Ex) (a : Option Addr) (c : Nat) : Obj := .cells #[.int .i64 x.kind, .int .i64 x.n, .string x.name, .slice a x.kids.length c] 65 (0, 0)

theorem sx_cells {w : World} {b : Nat} {v0 v1 v2 v3 : Value} {t : TypeId} (h : w.heap[b]? = some (.cells #[v0, v1, v2, v3] t (0, 0))) :
    w.cell? ⟨b, 0, none⟩ = some v0 ∧ w.cell? ⟨b, 1, none⟩ = some v1 ∧ w.cell? ⟨b, 2, none⟩ = some v2 ∧ w.cell? ⟨b, 3, none⟩ = some v3 := by simp [World.cell?, h]
theorem sx_at1 (w : World) (o p : Obj) : ((w.alloc o).alloc p).heap[w.heap.size]? = some o := by
  rw [Below.heap_alloc _ _ _ (by simp)]; exact heap_alloc_new w o
theorem sx_at2 (w : World) (o p : Obj) : ((w.alloc o).alloc p).heap[w.heap.size + 1]? = some p := by
  have := heap_alloc_new (w.alloc o) p
  simpa using this
theorem sx_bel2 (w : World) (o p : Obj) : Below w.heap.size w ((w.alloc o).alloc p) := ((Below.refl _ w).alloc (Nat.le_refl _) _).alloc (by simp) _
theorem sx_cell {u v : World} {N o : Nat} {x : Value} (hb : Below u.heap.size u v) (hN : N < u.heap.size) (h : u.cell? ⟨N, o, none⟩ = some x) : v.cell? ⟨N, o, none⟩ = some x := (hb.cell (p := ⟨N, o, none⟩) hN).trans h

set_option maxRecDepth 100000 in
set_option maxHeartbeats 1000000 in
theorem sameExpr_any (B : Nat) : ∀ (h h' : Nat) (x : Sy.Ex) (a1 a2 : Option Addr) (c1 c2 : Nat) (w : World) (_ : B ≤ w.heap.size) (_ : Hid (ExIn B w h x a1)) (_ : Hid (ExIn B w h' x a2)),
    Calls Tryd.prog 52 #[exV x a1 c1, exV x a2 c2] w fun e w' => e = .returned (.bool true) ∧ Below w.heap.size w w'
  | 0, _, x, a1, a2, c1, c2, w, hB, h1, h2 => h1.out.elim
  | _ + 1, 0, x, a1, a2, c1, c2, w, hB, h1, h2 => h2.out.elim
  | h + 1, h' + 1, x, a1, a2, c1, c2, w, hB, h1, h2 => by
    have ih := sameExpr_any B h
    have IH := hideX ih
    clear ih
    have e1 : (x.kind != x.kind) = false := by simp
    have e2 : (x.n != x.n) = false := by simp
    have e3 := sx_str x.name
    have e4 : ((x.kids.length : Int) != (x.kids.length : Int)) = false := by simp
    have hlen : x.kids.length ≤ 9223372036854775807 := h1.out.2.1
    obtain ⟨W0, hW0⟩ : ∃ W0, (w.alloc (sxO x a1 c1)).alloc (sxO x a2 c2) = W0 := ⟨_, rfl⟩
    have HB0 : Hid (Below w.heap.size w W0) := by rw [← hW0]; exact sx_bel2 _ _ _
    have HP : Hid (W0.heap[w.heap.size]? = some (sxO x a1 c1)) := by rw [← hW0]; exact sx_at1 _ _ _
    have HQ : Hid (W0.heap[w.heap.size + 1]? = some (sxO x a2 c2)) := by rw [← hW0]; exact sx_at2 _ _ _
    have hZ0 : w.heap.size + 1 < W0.heap.size := lt_of_block HQ.out
    have HZ := hideX hZ0
    obtain ⟨p0, p1, p2, p3⟩ := sx_cells HP.out
    obtain ⟨q0, q1, q2, q3⟩ := sx_cells HQ.out
    go_enter Tryd.func52, Tryd.ntmps52
    go_wp2
    clear p0 p1 p2 p3 q0 q1 q2 q3 e1 e2 e3 e4
    go_loopw [37] (fun i wr => ∃ k : Nat, k ≤ x.kids.length ∧ i = .int .i64 k ∧ Hid (Below W0.heap.size W0 wr)) (fun i _ => x.kids.length - (intOf i).toNat)
    case atStart => exact ⟨0, Nat.zero_le _, rfl, Below.refl _ _⟩
    case round =>
      obtain ⟨k, hk, rfl, HBr⟩ := hrel
      have HBw : Hid (Below w.heap.size w wr) := HB0.out.trans (HBr.out.mono HB0.out.size)
      obtain ⟨p0, p1, p2, p3⟩ := sx_cells ((HBr.out.block _ (by omega)).trans HP.out)
      obtain ⟨q0, q1, q2, q3⟩ := sx_cells ((HBr.out.block _ (by omega)).trans HQ.out)
      clear p0 p1 p2 q0 q1 q2
      by_cases hlt : k < x.kids.length
      · obtain ⟨kid, hkid⟩ : ∃ kid, x.kids[k]? = some kid := ⟨_, List.getElem?_eq_getElem hlt⟩
        obtain ⟨b1, o1, a1', c1', rfl, hb1, u0, u1, u2, u3, i1⟩ := h1.out.2.2 k kid hkid
        obtain ⟨b2, o2, a2', c2', rfl, hb2, v0, v1, v2, v3, i2⟩ := h2.out.2.2 k kid hkid
        have hs := HBw.out.size
        have hsw := same_below HBw.out
        have l1 : b1 < wr.heap.size := by omega
        have l2 : b2 < wr.heap.size := by omega
        have hPr : w.heap.size + 1 < wr.heap.size := by have := HBr.out.size; omega
        rw [← hsw _ _ (by omega)] at u0 u1 u2 u3 v0 v1 v2 v3
        have HI1 : Hid (ExIn B wr h kid a1') := i1.same (fun b o hb => hsw b o (by omega))
        have HI2 : Hid (ExIn B wr h' kid a2') := i2.same (fun b o hb => hsw b o (by omega))
        have hBr : B ≤ wr.heap.size := by omega
        have m0 : (0 : Int) ≤ (k : Int) := by omega
        have m1 : (k : Int) < (x.kids.length : Int) := by omega
        clear i1 i2 hsw hkid hs hb1 hb2
        go_wp2_with fail
        go_region_held3 (fun w' => w'.cell? ⟨w.heap.size, 3, none⟩ = some (.slice (some ⟨b1, o1, none⟩) x.kids.length c1) ∧ w'.cell? ⟨w.heap.size + 1, 3, none⟩ = some (.slice (some ⟨b2, o2, none⟩) x.kids.length c2) ∧ w'.cell? ⟨b1, o1 + k * 4, none⟩ = some (.int .i64 kid.kind) ∧ w'.cell? ⟨b1, o1 + k * 4 + 1, none⟩ = some (.int .i64 kid.n) ∧ w'.cell? ⟨b1, o1 + k * 4 + 2, none⟩ = some (.string kid.name) ∧ w'.cell? ⟨b1, o1 + k * 4 + 3, none⟩ = some (.slice a1' kid.kids.length c1') ∧ w'.cell? ⟨b2, o2 + k * 4, none⟩ = some (.int .i64 kid.kind) ∧ w'.cell? ⟨b2, o2 + k * 4 + 1, none⟩ = some (.int .i64 kid.n) ∧ w'.cell? ⟨b2, o2 + k * 4 + 2, none⟩ = some (.string kid.name) ∧ w'.cell? ⟨b2, o2 + k * 4 + 3, none⟩ = some (.slice a2' kid.kids.length c2')) (go_keep)
          (first
            | (go_at_call 52; refine (IH.out h' kid a1' a2' c1' c2' wr.drew hBr (ExIn.same (w := wr) (w' := wr.drew) (fun _ _ _ => rfl) h kid a1' HI1.out) (ExIn.same (w := wr) (w' := wr.drew) (fun _ _ _ => rfl) h' kid a2' HI2.out)).mono ?_; rintro e w4 ⟨rfl, hb4'⟩; have hb4 : Below wr.heap.size wr w4 := (Below.refl _ wr).drew.trans hb4'; have HB4 : Hid (Below W0.heap.size W0 w4) := HBr.out.trans (hb4.mono HBr.out.size); have x1 := sx_cell hb4 (by omega) p3; have x2 := sx_cell hb4 hPr q3; have x3 := sx_cell hb4 l1 u0; have x4 := sx_cell hb4 l1 u1; have x5 := sx_cell hb4 l1 u2; have x6 := sx_cell hb4 l1 u3; have x7 := sx_cell hb4 l2 v0; have x8 := sx_cell hb4 l2 v1; have x9 := sx_cell hb4 l2 v2; have x10 := sx_cell hb4 l2 v3; clear hb4 hb4'))
        go_wp2
        go_roundw
        case rel => exact ⟨k + 1, by omega, by go_num, HB4.out⟩
        case measure => simp [intOf]; omega
      · go_wp2
        go_ret
        exact ⟨rfl, HBw.out⟩

end Go.Proofs.YtlnikpcoejpknaaDoor

