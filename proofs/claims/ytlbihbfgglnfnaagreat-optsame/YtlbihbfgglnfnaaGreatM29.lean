/- The walk of stacks.New. -/
import Derived.Test.YtlbihbfgglnfnaaGreatM28
import Derived.Test.YtlbihbfgglnfnaaGreatM4
set_option maxHeartbeats 400000
namespace Go.Proofs.YtlbihbfgglnfnaaGreat.Sb
open Go.RowKit
theorem ck_made {w : World} {B mn : Nat} {g : Nat} {xs : List Value} (h : w.ownsRow B 2 1 (.slice (some ⟨g, 0, none⟩) mn mn) mn xs) : CK w g [] mn := by
 rcases h.2 with ⟨hv, _⟩ | ⟨g', cap, cur, hv, _, hh, _, _, hc, _⟩
 ·simp at hv
 ·simp at hv
  obtain ⟨rfl, rfl⟩ := hv
  exact ⟨cur.toList, hh, by simpa using hc, rfl⟩
theorem snew_any (mn most : Nat) (w : World) (h1 : 1 ≤ mn) (h2 : mn ≤ most) (h3 : most ≤ 400) :
  Calls Tryz.prog 49 #[.int .i64 mn, .int .i64 most] w fun e w' => ∃ S, e = .returned (.tuple #[.pointer (some ⟨S, 0, none⟩), .int .i64 0]) ∧ SK w' S w.heap.size [] mn mn most ∧ w.heap.size < S ∧ Below w.heap.size w w' := by
 obtain ⟨i0, hi, hz0, hz1, hz2⟩ := info_parts Tryz.info2
 have n1 : ¬ (mn : Int) < 1 := by omega
 have n2 : ¬ (most : Int) < (mn : Int) := by omega
 have n3 : ¬ (400 : Int) < (most : Int) := by omega
 go_enter Tryz.func49, Tryz.ntmps49
 go_wp2_with (at_make; refine wpList_make_full _ rfl _ _ 33 rfl w.heap.size 2 i0 (.int .i64 0) 1 Tryz.underlying33 hi hz0 hz1 _ _ _ _ mn rfl rfl rfl rfl (by rw [hz2]; omega) (by unfold maxLen; omega) (Nat.le_refl _) ?_; intro w1 hown hgrow)
 have hb : Below w.heap.size w w1 := (Below.refl _ w).grown hgrow (Nat.le_refl _) (fun k hk => by simp at hk)
 have hz := lt_of_block (ck_made hown).choose_spec.1
 have HS0 := hide (show SK (w1.alloc (skO w.heap.size 0 mn mn most)) w1.heap.size w.heap.size [] mn mn most from ⟨heap_alloc_new w1 _, (ck_made hown).alloc _, by unfold Sk.Fits; simp; omega⟩)
 have HB := hide (hb.alloc hb.size (skO w.heap.size 0 mn mn most))
 clear hown hgrow n1 n2 n3 hb
 go_wp2
 go_ret2
 exact ⟨_, rfl, HS0.out, hz, HB.out⟩
end Go.Proofs.YtlbihbfgglnfnaaGreat.Sb
namespace Go.Proofs.YtlbihbfgglnfnaaGreat.Vw
open Go.RowKit Vf Vm
abbrev ints (l : List Int) : List Value := l.map (.int .i64)
structure Lb where
 cls : Nat
 idx : Nat
 th : Nat
 part : Nat
abbrev Lab := Nat → Lb
def Ext (L L' : Lab) (w : World) : Prop := ∀ b, b < w.heap.size → L' b = L b
structure LOk (B : Nat) (L : Lab) (w : World) : Prop where
 low : ∀ b, b < B → (L b).cls = 0
 new : ∀ b, w.heap.size ≤ b → (L b).cls = 0
 size : B ≤ w.heap.size
structure Chg (Q : Nat → Prop) (w w' : World) : Prop where
 os : w'.os = w.os
 tape : w'.tape = w.tape
 output : w'.output = w.output
 size : w.heap.size ≤ w'.heap.size
 block : ∀ b, b < w.heap.size → ¬ Q b → w'.heap[b]? = w.heap[b]?
theorem Chg.refl (Q : Nat → Prop) (w : World) : Chg Q w w := ⟨rfl, rfl, rfl, Nat.le_refl _, fun _ _ _ => rfl⟩
theorem Chg.trans {Q : Nat → Prop} {a b c : World} (h : Chg Q a b) (k : Chg Q b c) : Chg Q a c :=
 ⟨k.os.trans h.os, k.tape.trans h.tape, k.output.trans h.output, Nat.le_trans h.size k.size, fun i hi hq => (k.block i (by have := h.size; omega) hq).trans (h.block i hi hq)⟩
theorem Chg.mono {Q Q' : Nat → Prop} {a b : World} (h : Chg Q a b) (hq : ∀ i, i < a.heap.size → Q i → Q' i) : Chg Q' a b :=
 ⟨h.os, h.tape, h.output, h.size, fun i hi hn => h.block i hi (fun hx => hn (hq i hi hx))⟩
theorem Chg.of_below {Q : Nat → Prop} {a b : World} (h : Below a.heap.size a b) : Chg Q a b := ⟨h.os, h.tape, h.output, h.size, fun i hi _ => h.block i hi⟩
theorem Chg.of_mv {a b : World} {S g : Nat} {Q : Nat → Prop} (h : Sb.Mv a b S g) (hS : Q S) (hg : Q g) : Chg Q a b :=
 ⟨h.os, h.tape, h.output, h.size, fun i hi hn => h.block i hi (fun e => hn (e ▸ hS)) (fun e => hn (e ▸ hg))⟩
theorem Chg.drew {Q : Nat → Prop} {a b : World} (h : Chg Q a b) : Chg Q a b.drew := ⟨h.os, h.tape, h.output, h.size, h.block⟩
theorem Chg.drewN {Q : Nat → Prop} {a b : World} (h : Chg Q a b) (n : Nat) : Chg Q a (b.drewN n) := ⟨h.os, h.tape, h.output, h.size, h.block⟩
theorem Chg.set {Q : Nat → Prop} {a b : World} (h : Chg Q a b) {p : Addr} (hp : Q p.block ∨ a.heap.size ≤ p.block) (u : Value) : Chg Q a (b.setCell p u) :=
 ⟨h.os, h.tape, h.output, by simpa [World.setCell] using h.size, fun i hi hn => (Below.heap_setCell _ _ _ _ (fun e => by cases hp with | inl hp => exact hn (e ▸ hp) | inr hp => omega)).trans (h.block i hi hn)⟩
theorem Chg.alloc {Q : Nat → Prop} {a b : World} (h : Chg Q a b) (o : Obj) : Chg Q a (b.alloc o) :=
 ⟨h.os, h.tape, h.output, by have := h.size; simp; omega, fun i hi hn => (Below.heap_alloc _ _ _ (by have := h.size; omega)).trans (h.block i hi hn)⟩
theorem Chg.low {Q : Nat → Prop} {a b : World} {B : Nat} (h : Chg Q a b) (hB : B ≤ a.heap.size) (hq : ∀ i, i < B → ¬ Q i) : Low B a b := fun k hk => h.block k (by omega) (hq k hk)
structure Cx where
 m : Md
 B : Nat
 au : Option Addr
 cu : Nat
 cv : Nat → Option Addr
 cc : Nat → Nat
structure CxIn (c : Cx) (w : World) : Prop where
 few : c.m.units.length ≤ 30
 units : ∀ (i : Nat) u, c.m.units[i]? = some u → ∃ b off al cl, c.au = some ⟨b, off, none⟩ ∧ b < c.B ∧ UnIn c.B w u al (c.cv i) cl (c.cc i) ∧ w.cell? ⟨b, off + i * 6, none⟩ = some (.int .i64 u.kind) ∧ w.cell? ⟨b, off + i * 6 + 1, none⟩ = some (.int .i64 u.params) ∧ w.cell? ⟨b, off + i * 6 + 2, none⟩ = some (.slice al u.locals.length cl) ∧ w.cell? ⟨b, off + i * 6 + 3, none⟩ = some (.int .i64 u.result) ∧ w.cell? ⟨b, off + i * 6 + 4, none⟩ = some (.int .i64 u.takes) ∧ w.cell? ⟨b, off + i * 6 + 5, none⟩ = some (.slice (c.cv i) u.code.length (c.cc i))
theorem CxIn.low {c : Cx} {w w' : World} (h : CxIn c w) (hk : Low c.B w w') : CxIn c w' := ⟨h.few, fun i u hu => by
 obtain ⟨b, off, al, cl, e, hs, hun, c0, c1, c2, c3, c4, c5⟩ := h.units i u hu
 have := hk b hs
 exact ⟨b, off, al, cl, e, hs, hun.low hk, (cell_eq this _).trans c0, (cell_eq this _).trans c1, (cell_eq this _).trans c2, (cell_eq this _).trans c3, (cell_eq this _).trans c4, (cell_eq this _).trans c5⟩⟩
def codeV (c : Cx) (n : Nat) : Value := .slice (c.cv n) (unit c.m n).code.length (c.cc n)
def wkc (c : Cx) (f : Wk) : List Value := [codeV c f.u, .int .i64 f.pc, .int .i64 f.base]
def wkCells (c : Cx) (l : List Wk) : List Value := l.flatMap (wkc c)
theorem wk_len (c : Cx) : ∀ l, (wkCells c l).length = l.length * 3
 | [] => rfl
 | o :: l => by have := wk_len c l; simp only [wkCells, List.flatMap_cons, List.length_append, List.length_cons] at *; simp only [this, wkc, List.length_cons, List.length_nil]; omega
theorem wk_app (c : Cx) (l l' : List Wk) : wkCells c (l ++ l') = wkCells c l ++ wkCells c l' := by simp [wkCells]
def upV (P : Nat → Nat) : Option Nat → Value
 | none => .pointer none
 | some j => .pointer (some ⟨P j, 0, none⟩)
abbrev thO (S : Nat) (vU : Value) (stands : Nat) (up : Value) : Obj := .cells #[.pointer (some ⟨S, 0, none⟩), vU, .int .i64 stands, up] 83 (0, 0)
structure ThIn (c : Cx) (L : Lab) (o i : Nat) (P : Nat → Nat) (w : World) (h : Th) (S g r : Nat) (vU : Value) : Prop where
 blk : w.heap[P i]? = some (thO S vU h.stands (upV P h.up))
 stack : Sb.SK w S g h.ws r 8 400
 row : w.ownsRow 0 129 3 vU h.fs.length (wkCells c h.fs.reverse)
 few : h.fs.length ≤ 40
 l0 : L (P i) = ⟨1, o, i + 1, 0⟩
 l1 : L S = ⟨1, o, i + 1, 1⟩
 l2 : L g = ⟨1, o, i + 1, 2⟩
 l3 : ∀ U, vU.ownBlock = some U → L U = ⟨1, o, i + 1, 3⟩
section
variable {c : Cx} {L : Lab} {o i : Nat} {P : Nat → Nat} {w : World} {h : Th} {S g r : Nat} {vU : Value}
theorem ThIn.cells (H : ThIn c L o i P w h S g r vU) :
  w.cell? ⟨P i, 0, none⟩ = some (.pointer (some ⟨S, 0, none⟩)) ∧ w.cell? ⟨P i, 1, none⟩ = some vU ∧ w.cell? ⟨P i, 2, none⟩ = some (.int .i64 h.stands) ∧ w.cell? ⟨P i, 3, none⟩ = some (upV P h.up) := by
 have h := H.blk
 simp [World.cell?, h]
theorem ThIn.free (H : ThIn c L o i P w h S g r vU) (j : Nat) : w.frozen? ⟨P i, j, none⟩ = false := by
 have h := H.blk
 simp [World.frozen?, h]
theorem ThIn.work (H : ThIn c L o i P w h S g r vU) {f : Wk} {rs : List Wk} (hf : h.fs = f :: rs) :
  ∃ U cap cur, vU = .slice (some ⟨U, 0, none⟩) (rs.length + 1) cap ∧ w.heap[U]? = some (.cells cur 129 (0, 0)) ∧ rs.length + 1 ≤ cap ∧ cap ≤ maxLen ∧ cur.size = cap * 3 ∧ cur.toList.take ((rs.length + 1) * 3) = wkCells c (f :: rs).reverse ∧ L U = ⟨1, o, i + 1, 3⟩ := by
 have hr := H.row.2
 have hl := H.l3
 rw [hf] at hr
 rcases hr with ⟨_, hv⟩ | ⟨g', cap', cur, hv, _, hh, h1, h2, h3, h4⟩
 ·simp at hv
 ·exact ⟨g', cap', cur, hv, hh, h1, h2, h3, h4, hl g' (by rw [hv]; rfl)⟩
theorem ThIn.lt (H : ThIn c L o i P w h S g r vU) (U : Nat) (hU : vU.ownBlock = some U) : U < w.heap.size := (H.row.lt U hU).2
theorem ThIn.inner (H : ThIn c L o i P w h S g r vU) {f : Wk} {rs : List Wk} (hf : h.fs = f :: rs) {U cap : Nat} (hU : vU = .slice (some ⟨U, 0, none⟩) (rs.length + 1) cap) :
  w.cell? ⟨U, rs.length * 3, none⟩ = some (codeV c f.u) ∧ w.cell? ⟨U, rs.length * 3 + 1, none⟩ = some (.int .i64 f.pc) ∧ w.cell? ⟨U, rs.length * 3 + 2, none⟩ = some (.int .i64 f.base) ∧ ∀ j, w.frozen? ⟨U, j, none⟩ = false := by
 obtain ⟨U', cap', cur, hv, hh, h1, h2, h3, h4, _⟩ := H.work hf
 rw [hU] at hv
 simp at hv
 obtain ⟨rfl, rfl⟩ := hv
 rw [List.reverse_cons, wk_app] at h4
 have key : ∀ j, j < 3 → cur[rs.length * 3 + j]? = (wkc c f)[j]? := fun j hj => by
  have : (cur.toList.take ((rs.length + 1) * 3))[rs.length * 3 + j]? = cur[rs.length * 3 + j]? := by rw [List.getElem?_take, if_pos (by omega)]; simp
  rw [← this, h4, List.getElem?_append_right (by rw [wk_len]; simp), wk_len]
  simp [wkCells]
 have k0 := key 0 (by omega)
 have k1 := key 1 (by omega)
 have k2 := key 2 (by omega)
 refine ⟨by simp [World.cell?, hh]; simpa [wkc] using k0, by simp [World.cell?, hh]; simpa [wkc] using k1, by simp [World.cell?, hh]; simpa [wkc] using k2, fun j => by simp [World.frozen?, hh]⟩
theorem ThIn.drewN (H : ThIn c L o i P w h S g r vU) (n : Nat) : ThIn c L o i P (w.drewN n) h S g r vU := ⟨H.blk, H.stack, H.row, H.few, H.l0, H.l1, H.l2, H.l3⟩
end
theorem own_keep {w w' : World} {B e size n : Nat} {v : Value} {xs : List Value} (h : w.ownsRow B e size v n xs) (hk : ∀ k, v.ownBlock = some k → w'.heap[k]? = w.heap[k]?) : w'.ownsRow B e size v n xs := by
 refine ⟨h.1, ?_⟩
 rcases h.2 with h2 | ⟨g', cap, cur, rfl, hB, hh, hr⟩
 ·exact .inl h2
 ·exact .inr ⟨g', cap, cur, rfl, hB, (hk g' rfl).trans hh, hr⟩
theorem ThIn.keep {c : Cx} {L L' : Lab} {o i : Nat} {P P' : Nat → Nat} {w w' : World} {h : Th} {S g r : Nat} {vU : Value} (H : ThIn c L o i P w h S g r vU) (hL : Ext L L' w) (hP : P' i = P i) (hu : upV P' h.up = upV P h.up) (hk : ∀ b, b < w.heap.size → (L b).cls = 1 ∧ (L b).idx = o ∧ (L b).th = i + 1 → w'.heap[b]? = w.heap[b]?) : ThIn c L' o i P' w' h S g r vU := by
 obtain ⟨cs, hc, hr⟩ := H.stack.2.1
 have z0 := lt_of_block H.blk
 have z1 := lt_of_block H.stack.1
 have z2 := lt_of_block hc
 refine ⟨?_, ⟨(hk S z1 (by rw [H.l1]; exact ⟨rfl, rfl, rfl⟩)).trans H.stack.1, ⟨cs, (hk g z2 (by rw [H.l2]; exact ⟨rfl, rfl, rfl⟩)).trans hc, hr⟩, H.stack.2.2⟩, own_keep H.row (fun b hb => hk b (H.lt b hb) (by rw [H.l3 b hb]; exact ⟨rfl, rfl, rfl⟩)), H.few, ?_, (hL S z1).trans H.l1, (hL g z2).trans H.l2, fun U hU => (hL U (H.lt U hU)).trans (H.l3 U hU)⟩
 ·rw [hP, hu]; exact (hk _ z0 (by rw [H.l0]; exact ⟨rfl, rfl, rfl⟩)).trans H.blk
 ·rw [hP]; exact (hL _ z0).trans H.l0
theorem inner_any (c : Cx) (L : Lab) (o i : Nat) (P : Nat → Nat) (w : World) (h : Th) (S g r : Nat) (vU : Value) (H : Hid (ThIn c L o i P w h S g r vU)) (f : Wk) (rs : List Wk) (hf : Hid (h.fs = f :: rs)) (U cap : Nat) (hU : Hid (vU = .slice (some ⟨U, 0, none⟩) (rs.length + 1) cap)) :
  Calls Tryz.prog 54 #[.pointer (some ⟨P i, 0, none⟩)] w fun e w' => e = .returned (.pointer (some ⟨U, rs.length * 3, none⟩)) ∧ ∃ d, w' = w.drewN d := by
 obtain ⟨c0, c1, c2, c3⟩ := H.out.cells
 have hlen : h.fs.length = rs.length + 1 := by rw [hf.out]; rfl
 have hfew := H.out.few
 rw [hlen] at hfew
 rw [hU.out] at c1
 have n0 : (0 : Int) ≤ (rs.length : Int) := by omega
 clear hlen
 go_enter Tryz.func54, Tryz.ntmps54
 go_wp2
 go_quiet (fail)
 go_wp2
 go_ret
 exact ⟨rfl, _, rfl⟩
def ThB (L : Lab) (o i : Nat) (b : Nat) : Prop := (L b).cls = 1 ∧ (L b).idx = o ∧ (L b).th = i + 1
def Ex (o i : Nat) (L L' : Lab) (w : World) : Prop := Ext L L' w ∧ ∀ b, L' b = L b ∨ ((L' b).cls = 1 ∧ (L' b).idx = o ∧ (L' b).th = i + 1)
def SPost (c : Cx) (L : Lab) (o i : Nat) (P : Nat → Nat) (w w' : World) (h : Th) (S : Nat) (vU : Value) : Prop := ∃ L' g r, ThIn c L' o i P w' h S g r vU ∧ Ex o i L L' w ∧ LOk c.B L' w' ∧ Chg (ThB L o i) w w'
def TPost (c : Cx) (L : Lab) (o i : Nat) (P : Nat → Nat) (w w' : World) (h : Th) : Prop := ∃ L' S g r vU, ThIn c L' o i P w' h S g r vU ∧ Ex o i L L' w ∧ LOk c.B L' w' ∧ Chg (ThB L o i) w w'
theorem SPost.toT {c : Cx} {L : Lab} {o i : Nat} {P : Nat → Nat} {w w' : World} {h : Th} {S : Nat} {vU : Value} (H : SPost c L o i P w w' h S vU) : TPost c L o i P w w' h := by
 obtain ⟨L', g, r, h1, h2⟩ := H
 exact ⟨L', S, g, r, vU, h1, h2⟩
theorem LOk.on {B : Nat} {L : Lab} {w w' : World} (h : LOk B L w) (hz : w.heap.size ≤ w'.heap.size) : LOk B L w' := ⟨h.low, fun b hb => h.new b (by omega), by have := h.size; omega⟩
theorem Ext.refl (L : Lab) (w : World) : Ext L L w := fun _ _ => rfl
theorem Ext.trans {L L1 L2 : Lab} {w w1 : World} (h : Ext L L1 w) (k : Ext L1 L2 w1) (hz : w.heap.size ≤ w1.heap.size) : Ext L L2 w := fun b hb => (k b (by omega)).trans (h b hb)
theorem Ex.refl (o i : Nat) (L : Lab) (w : World) : Ex o i L L w := ⟨.refl _ _, fun _ => .inl rfl⟩
theorem Ex.trans {o i : Nat} {L L1 L2 : Lab} {w w1 : World} (h : Ex o i L L1 w) (k : Ex o i L1 L2 w1) (hz : w.heap.size ≤ w1.heap.size) : Ex o i L L2 w := ⟨h.1.trans k.1 hz, fun b => by
 rcases k.2 b with e | e
 ·rcases h.2 b with e2 | e2
  ·exact .inl (e.trans e2)
  ·rw [← e] at e2; exact .inr e2
 ·exact .inr e⟩
theorem ex_if {o i : Nat} {L : Lab} {w : World} (x p : Nat) (h : Ext L (fun b => if b = x then ⟨1, o, i + 1, p⟩ else L b) w) : Ex o i L (fun b => if b = x then ⟨1, o, i + 1, p⟩ else L b) w := ⟨h, fun b => by
 by_cases e : b = x
 ·right; simp [e]
 ·left; simp [e]⟩
theorem ThIn.stacked {c : Cx} {L : Lab} {o i : Nat} {P : Nat → Nat} {w w' : World} {h : Th} {S g r g' r' : Nat} {vU : Value} {ws' : List Int} (H : ThIn c L o i P w h S g r vU) (hL : LOk c.B L w) (hS : Sb.SK w' S g' ws' r' 8 400) (hM : Sb.Mv w w' S g) (hg : g' = g ∨ w.heap.size ≤ g') : SPost c L o i P w w' { h with ws := ws' } S vU := by
 obtain ⟨cs', hc', _⟩ := hS.2.1
 obtain ⟨cs, hc, _⟩ := H.stack.2.1
 have z0 := lt_of_block H.blk
 have z1 := lt_of_block H.stack.1
 have z2 := lt_of_block hc
 have n01 : P i ≠ S := fun e => by have a := H.l0; have b := H.l1; rw [e, b] at a; cases a
 have n02 : P i ≠ g := fun e => by have a := H.l0; have b := H.l2; rw [e, b] at a; cases a
 have n31 : ∀ U, vU.ownBlock = some U → U ≠ S := fun U hU e => by have a := H.l3 U hU; have b := H.l1; rw [e, b] at a; cases a
 have n32 : ∀ U, vU.ownBlock = some U → U ≠ g := fun U hU e => by have a := H.l3 U hU; have b := H.l2; rw [e, b] at a; cases a
 have n12 : S ≠ g := fun e => by have a := H.l1; have b := H.l2; rw [e, b] at a; cases a
 have far : ∀ b, b < w.heap.size → b ≠ g → b ≠ g' := fun b hb hn e => by rcases hg with hg | hg <;> omega
 have ext : Ext L (fun b => if b = g' then ⟨1, o, i + 1, 2⟩ else L b) w := fun b hb => by
  by_cases e : b = g'
  ·have : b = g := by rcases hg with hg | hg <;> omega
   simp only [e, if_true]; rw [← e, this, H.l2]
  ·simp only [e, if_false]
 refine ⟨_, g', r', ⟨(hM.block _ z0 n01 n02).trans H.blk, hS, own_keep H.row (fun b hb => hM.block b (H.lt b hb) (n31 b hb) (n32 b hb)), H.few, (ext _ z0).trans H.l0, (ext _ z1).trans H.l1, by simp, fun U hU => (ext _ (H.lt U hU)).trans (H.l3 U hU)⟩, ex_if _ _ ext, ⟨fun b hb => ?_, fun b hb => ?_, by have := hL.size; have := hM.size; omega⟩, Chg.of_mv hM ?_ ?_⟩
 ·have hb2 := hL.low b hb
  have e : b ≠ g' := fun e => by
   rcases hg with hg | hg
   ·have := H.l2; rw [← hg, ← e] at this; rw [this] at hb2; cases hb2
   ·have := hL.size; omega
  simp only [e, if_false]; exact hb2
 ·have e : b ≠ g' := fun e => by have := lt_of_block hc'; omega
  simp only [e, if_false]; exact hL.new b (by have := hM.size; omega)
 ·show (L S).cls = 1 ∧ _; rw [H.l1]; exact ⟨rfl, rfl, rfl⟩
 ·show (L g).cls = 1 ∧ _; rw [H.l2]; exact ⟨rfl, rfl, rfl⟩
theorem SPost.of_same {c : Cx} {L : Lab} {o i : Nat} {P : Nat → Nat} {w : World} {h : Th} {S g r : Nat} {vU : Value} (H : ThIn c L o i P w h S g r vU) (hL : LOk c.B L w) (d : Nat) : SPost c L o i P w (w.drewN d) h S vU :=
 ⟨L, g, r, H.drewN d, .refl _ _ _ _, hL.on (Nat.le_refl _), (Chg.refl _ _).drewN d⟩
theorem TPost.drewN {c : Cx} {L : Lab} {o i : Nat} {P : Nat → Nat} {w w' : World} {h : Th} {d : Nat} (H : TPost c L o i P (w.drewN d) w' h) : TPost c L o i P w w' h := by
 obtain ⟨L', S, g, r, vU, h1, h2, h3, h4⟩ := H
 exact ⟨L', S, g, r, vU, h1, h2, h3, h4.os, h4.tape, h4.output, h4.size, h4.block⟩
theorem SPost.drewN {c : Cx} {L : Lab} {o i : Nat} {P : Nat → Nat} {w w' : World} {h : Th} {S : Nat} {vU : Value} {d : Nat} (H : SPost c L o i P (w.drewN d) w' h S vU) : SPost c L o i P w w' h S vU := by
 obtain ⟨L', g, r, h1, h2, h3, h4⟩ := H
 exact ⟨L', g, r, h1, h2, h3, h4.os, h4.tape, h4.output, h4.size, h4.block⟩
theorem len_any (S g : Nat) (ws : List Int) (r mn most : Nat) (w : World) (h : Hid (Sb.SK w S g ws r mn most)) :
  Calls Tryz.prog 88 #[.pointer (some ⟨S, 0, none⟩)] w fun e w' => e = .returned (.int .i64 ws.length) ∧ w' = w := by
 obtain ⟨c0, c1, c2, c3⟩ := h.out.cells
 go_enter Tryz.func88, Tryz.ntmps88
 go_wp2
 go_ret
 exact ⟨rfl, rfl⟩
theorem add_none (b off j : Nat) : (⟨b, off, none⟩ : Addr).add j = ⟨b, off + j, none⟩ := by unfold Addr.add; split <;> simp_all
def wordAt (ws : List Int) (n : Int) : Int := if n < 0 then 0 else (ws[n.toNat]?).getD 0
theorem word_any (S g : Nat) (ws : List Int) (r mn most : Nat) (n v : Int) (w : World) (h : Hid (Sb.SK w S g ws r mn most)) (hv : Hid (v = wordAt ws n)) :
  Calls Tryz.prog 56 #[.pointer (some ⟨S, 0, none⟩), .int .i64 n] w fun e w' => e = .returned (.int .i64 v) ∧ ∃ d, w' = w.drewN d := by
 obtain ⟨c0, c1, c2, c3⟩ := h.out.cells
 have hfit := h.out.2.2
 unfold Sk.Fits at hfit
 obtain ⟨h3, h4, h5, h6, h7⟩ := hfit
 by_cases hz : n < 0
 ·have HV : Hid (v = 0) := by unfold Hid; rw [hv.out]; unfold wordAt; rw [if_pos hz]
  go_enter Tryz.func56, Tryz.ntmps56
  go_wp2
  go_ret
  exact ⟨by rw [HV.out]; rfl, 0, rfl⟩
 ·by_cases hl : (ws.length : Int) ≤ n
  ·have HV : Hid (v = 0) := by unfold Hid; rw [hv.out]; unfold wordAt; rw [if_neg hz, List.getElem?_eq_none (by omega)]; rfl
   go_enter Tryz.func56, Tryz.ntmps56
   go_wp2
   go_ret
   exact ⟨by rw [HV.out]; rfl, 0, rfl⟩
  ·obtain ⟨k, rfl⟩ : ∃ k : Nat, n = k := ⟨n.toNat, by omega⟩
   have hk : k < ws.length := by omega
   have cu : w.cell? ⟨g, k, none⟩ = some (.int .i64 v) := by
    have := h.out.2.1.cellAt k (.int .i64 v) (by
     rw [hv.out]
     unfold wordAt
     rw [if_neg hz]
     simp [hk])
    rw [add_none, Nat.zero_add] at this
    exact this
   have n0 : (0 : Int) ≤ (k : Int) := by omega
   have n1 : (k : Int) < (ws.length : Int) := by omega
   have n2 : (k : Int) < (r : Int) := by omega
   go_enter Tryz.func56, Tryz.ntmps56
   go_wp2
   go_ret
   exact ⟨rfl, 0, rfl⟩
theorem pop_none (S g : Nat) (ws : List Int) (r mn most : Nat) (n : Int) (w : World) (h : Hid (Sb.SK w S g ws r mn most)) (hn : n < 0 ∨ (ws.length : Int) < n) :
  Calls Tryz.prog 90 #[.pointer (some ⟨S, 0, none⟩), .int .i64 n] w fun e w' => e = .returned (.int .i64 3) ∧ w' = w := by
 obtain ⟨c0, c1, c2, c3⟩ := h.out.cells
 by_cases hz : n < 0
 ·go_enter Tryz.func90, Tryz.ntmps90
  go_wp2
  go_ret
  exact ⟨rfl, rfl⟩
 ·have hz2 : (ws.length : Int) < n := by omega
  clear hn
  go_enter Tryz.func90, Tryz.ntmps90
  go_wp2
  go_ret
  exact ⟨rfl, rfl⟩
theorem set_none (S g : Nat) (ws : List Int) (r mn most : Nat) (n v : Int) (w : World) (h : Hid (Sb.SK w S g ws r mn most)) (hn : n < 0 ∨ (ws.length : Int) ≤ n) :
  Calls Tryz.prog 57 #[.pointer (some ⟨S, 0, none⟩), .int .i64 n, .int .i64 v] w fun e w' => e = .returned (.int .i64 3) ∧ w' = w := by
 obtain ⟨c0, c1, c2, c3⟩ := h.out.cells
 by_cases hz : n < 0
 ·go_enter Tryz.func57, Tryz.ntmps57
  go_wp2
  go_ret
  exact ⟨rfl, rfl⟩
 ·have hz2 : (ws.length : Int) ≤ n := by omega
  clear hn
  go_enter Tryz.func57, Tryz.ntmps57
  go_wp2
  go_ret
  exact ⟨rfl, rfl⟩
theorem push_none (S g : Nat) (ws : List Int) (r mn most : Nat) (v : Int) (w : World) (h : Hid (Sb.SK w S g ws r mn most)) (hf : Hid (ws.length = most)) :
  Calls Tryz.prog 50 #[.pointer (some ⟨S, 0, none⟩), .int .i64 v] w fun e w' => e = .returned (.int .i64 4) ∧ ∃ d, w' = w.drewN d := by
 obtain ⟨c0, c1, c2, c3⟩ := h.out.cells
 have e1 : ((ws.length : Int) == (most : Int)) = true := by have := hf.out; simp; omega
 go_enter Tryz.func50, Tryz.ntmps50
 go_wp2
 go_region_held3 (fun w' => w'.cell? ⟨S, 1, none⟩ = some (.int .i64 ws.length) ∧ w'.cell? ⟨S, 3, none⟩ = some (.int .i64 most)) (go_keep) (fail)
 go_wp2
 go_ret
 exact ⟨rfl, 1, rfl⟩
theorem SK.drewN {w : World} {S g : Nat} {ws : List Int} {r mn most : Nat} (h : Sb.SK w S g ws r mn most) (d : Nat) : Sb.SK (w.drewN d) S g ws r mn most := h
theorem pop_th (c : Cx) (L : Lab) (o i : Nat) (P : Nat → Nat) (w : World) (h : Th) (S g r : Nat) (vU : Value) (H : Hid (ThIn c L o i P w h S g r vU)) (hL : Hid (LOk c.B L w)) (n : Int) (ws' : List Int) (hw : Hid (ws' = if n < 0 ∨ (h.ws.length : Int) < n then h.ws else h.ws.take (h.ws.length - n.toNat))) :
  Calls Tryz.prog 90 #[.pointer (some ⟨S, 0, none⟩), .int .i64 n] w fun e w' => (∃ x, e = .returned (.int .i64 x)) ∧ SPost c L o i P w w' { h with ws := ws' } S vU := by
 by_cases hn : n < 0 ∨ (h.ws.length : Int) < n
 ·refine (pop_none S g h.ws r 8 400 n w H.out.stack hn).mono ?_
  rintro e w' ⟨rfl, rfl⟩
  have hw := hw.out
  rw [if_pos hn] at hw
  rw [hw]
  exact ⟨⟨_, rfl⟩, SPost.of_same H.out hL.out 0⟩
 ·obtain ⟨k, rfl⟩ : ∃ k : Nat, n = k := ⟨n.toNat, by omega⟩
  have hw := hw.out
  rw [if_neg hn, Int.toNat_natCast] at hw
  rw [hw]
  by_cases hc : h.ws.length - k ≤ r / 4 ∧ 8 < r
  ·refine (Sb.pop_move S g h.ws r (max (r / 2) 8) 8 400 k w H.out.stack (by omega) hc.1 hc.2 rfl).mono ?_
   rintro e w' ⟨rfl, hS', hM⟩
   exact ⟨⟨_, rfl⟩, H.out.stacked hL.out hS' hM (.inr (Nat.le_refl _))⟩
  ·refine (Sb.pop_keep S g h.ws r 8 400 k w H.out.stack (by omega) hc).mono ?_
   rintro e w' ⟨rfl, hS', hM⟩
   exact ⟨⟨_, rfl⟩, H.out.stacked hL.out hS' hM (.inl rfl)⟩
theorem push_th (c : Cx) (L : Lab) (o i : Nat) (P : Nat → Nat) (w : World) (h : Th) (S g r : Nat) (vU : Value) (H : Hid (ThIn c L o i P w h S g r vU)) (hL : Hid (LOk c.B L w)) (v : Int) (E : Nat) (hE : Hid (E = if h.ws.length = 400 then 4 else 0)) (ws' : List Int) (hw : Hid (ws' = if h.ws.length = 400 then h.ws else h.ws ++ [v])) :
  Calls Tryz.prog 50 #[.pointer (some ⟨S, 0, none⟩), .int .i64 v] w fun e w' => e = .returned (.int .i64 E) ∧ SPost c L o i P w w' { h with ws := ws' } S vU := by
 have hE := hE.out
 have hw := hw.out
 have hfit := H.out.stack.2.2
 by_cases hn : h.ws.length = 400
 ·refine (push_none S g h.ws r 8 400 v w H.out.stack hn).mono ?_
  rintro e w' ⟨rfl, d, rfl⟩
  rw [if_pos hn] at hw hE
  rw [hw, hE]
  exact ⟨rfl, SPost.of_same H.out hL.out d⟩
 ·rw [if_neg hn] at hw hE
  rw [hw, hE]
  unfold Sk.Fits at hfit
  by_cases hr : h.ws.length = r
  ·refine (Sb.push_grow S g h.ws r (min (2 * r) 400) 8 400 v w H.out.stack hr (by omega) rfl).mono ?_
   rintro e w' ⟨rfl, hS', hC, hM⟩
   exact ⟨rfl, H.out.stacked hL.out ⟨by simpa using hS', hC, by unfold Sk.Fits; simp; omega⟩ hM (.inr (Nat.le_refl _))⟩
  ·refine (Sb.push_room S g h.ws r 8 400 v w H.out.stack (by omega)).mono ?_
   rintro e w' ⟨rfl, hS', hC, hM⟩
   exact ⟨rfl, H.out.stacked hL.out ⟨by simpa using hS', hC, by unfold Sk.Fits; simp; omega⟩ hM (.inl rfl)⟩
end Go.Proofs.YtlbihbfgglnfnaaGreat.Vw
