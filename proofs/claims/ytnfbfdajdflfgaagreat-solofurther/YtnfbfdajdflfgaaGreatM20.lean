/- A task and its boxes, plainly: how it stands, a step, up to so many steps. -/
import Derived.Test.YtnfbfdajdflfgaaGreatM5
import Derived.Test.YtnfbfdajdflfgaaGreatM19
namespace Go.Proofs.YtnfbfdajdflfgaaGreat.Vw
open Vf Vm

/-- What boxes are, plainly: whether one is full, or empty; whether it may take a word more (one that isn't full; of one that never is, while its row is not too long); what a put, and a taking, leave. -/
structure Bxs (β : Type) where
  full : β → Nat → Bool
  may : β → Nat → Prop
  empty : β → Nat → Bool
  put : β → Nat → Int → β
  head : β → Nat → Int
  take : β → Nat → β
/-- What boxes are left behind a step. -/
def stX {β : Type} (X : Bxs β) (i : Ins) (v : Int) (x : β) : β := if i.op = 26 then X.put x i.a.toNat v else if i.op = 27 then X.take x i.a.toNat else x
/-- How a task stands, and with which box. -/
def stat {β : Type} (X : Bxs β) (m : Md) (t : Tk) (x : β) : Nat × Nat :=
  if t.over ≠ 0 then (t.over, 0)
  else if (t.ins m).op = 26 ∧ X.full x (t.ins m).a.toNat = true then (2, (t.ins m).a.toNat)
  else if (t.ins m).op = 27 ∧ X.empty x (t.ins m).a.toNat = true then (3, (t.ins m).a.toNat)
  else (1, 0)
/-- A step of a task and its boxes. -/
def one {β : Type} (X : Bxs β) (m : Md) (t : Tk) (x : β) : Tk × β := (t.step m (X.head x (t.ins m).a.toNat), stX X (t.ins m) (t.goto (t.frame.pc + 1)).last x)
/-- Up to so many steps, as long as the task is Ready. -/
def go {β : Type} (X : Bxs β) (m : Md) : Nat → Tk → β → Nat × Tk × β
  | 0, t, x => (0, t, x)
  | n + 1, t, x => if (stat X m t x).1 = 1 then ((go X m n (one X m t x).1 (one X m t x).2).1 + 1, (go X m n (one X m t x).1 (one X m t x).2).2) else (0, t, x)
end Go.Proofs.YtnfbfdajdflfgaaGreat.Vw

/- Boxes, as a task has them; the walks of send, recv, state, Ready. -/
namespace Go.Proofs.YtnfbfdajdflfgaaGreat.Vw
open Go.RowKit Vf Vm

/-- A box in memory. -/
structure BoxAt {β : Type} (E : Env β) (X : Bxs β) (c : Cx) (n : Nat) (ty : TypeId) (p : Value) (fF fE fP fT : Nat) : Prop where
  runF : ∀ w : World, Sem.run Tryz.prog (do let q ← program; let y ← method (q.types.size + 100) ty p "Full"; callFunc y.fst #[y.snd]) w = .ok (.enter fF #[p]) w
  runE : ∀ w : World, Sem.run Tryz.prog (do let q ← program; let y ← method (q.types.size + 100) ty p "Empty"; callFunc y.fst #[y.snd]) w = .ok (.enter fE #[p]) w
  runP : ∀ (v : Value) (w : World), Sem.run Tryz.prog (do let q ← program; let y ← method (q.types.size + 100) ty p "Put"; callFunc y.fst #[y.snd, v]) w = .ok (.enter fP #[p, v]) w
  runT : ∀ w : World, Sem.run Tryz.prog (do let q ← program; let y ← method (q.types.size + 100) ty p "Take"; callFunc y.fst #[y.snd]) w = .ok (.enter fT #[p]) w
  full : ∀ (L : Lab) (w : World) (l : List Ev) (x : β), Hid (E.En L w l x) → Calls Tryz.prog fF #[p] w fun e w' => e = .returned (.bool (X.full x n)) ∧ ∃ d, w' = w.drewN d
  empty : ∀ (L : Lab) (w : World) (l : List Ev) (x : β), Hid (E.En L w l x) → Calls Tryz.prog fE #[p] w fun e w' => e = .returned (.bool (X.empty x n)) ∧ ∃ d, w' = w.drewN d
  put : ∀ (L : Lab) (w : World) (l : List Ev) (x : β) (v : Int), Hid (E.En L w l x) → Hid (LOk c.B L w) → Hid (X.may x n) → Calls Tryz.prog fP #[p, .int .i64 v] w fun e w' => e = .returned (.tuple #[]) ∧ ∃ L', E.En L' w' l (X.put x n v) ∧ ExE L L' w ∧ LOk c.B L' w' ∧ Chg (EB L) w w'
  take : ∀ (L : Lab) (w : World) (l : List Ev) (x : β), Hid (E.En L w l x) → Hid (LOk c.B L w) → Hid (X.empty x n = false) → Calls Tryz.prog fT #[p] w fun e w' => e = .returned (.int .i64 (X.head x n)) ∧ ∃ L', E.En L' w' l (X.take x n) ∧ ExE L L' w ∧ LOk c.B L' w' ∧ Chg (EB L) w w'
/-- All boxes: the row of them, and each. -/
structure BoxesAt {β : Type} (E : Env β) (X : Bxs β) (c : Cx) (vB : Value) : Prop where
  at' : ∀ n, n < c.m.boxes.length → ∃ b off cap ty p fF fE fP fT, vB = .slice (some ⟨b, off, none⟩) c.m.boxes.length cap ∧ (∀ (L : Lab) (w : World) (l : List Ev) (x : β), E.En L w l x → w.cell? ⟨b, off + n, none⟩ = some (.iface ty p)) ∧ BoxAt E X c n ty p fF fE fP fT

section
variable {β : Type} {E : Env β} {c : Cx} {vB ev : Value} {o T : Nat} {L : Lab} {P : Nat → Nat} {w w1 : World} {t : Tk} {x x' : β} {vR vO : Value}
/-- The boxes have turned. -/
theorem St.boxed (H : St E c vB ev o T L P w t x vR vO) {L' : Lab} (hn : E.En L' w1 t.log x') (hE : ExE L L' w) (hL : LOk c.B L' w1) (hC : Chg (EB L) w w1) : PPost E c vB ev o T L P w w1 t x' vR vO := by
  have hW : Chg (WB L o) w w1 := hC.mono (fun b _ hx => .inr hx)
  have blk : ∀ b, b < w.heap.size → (L b).cls = 1 → w1.heap[b]? = w.heap[b]? := fun b hb h1 => hC.block b hb (fun hx => by unfold EB at hx; omega)
  have one : ∀ {b i p : Nat}, L b = ⟨1, o, i, p⟩ → (L b).cls = 1 := fun e => by rw [e]
  refine ⟨L', ⟨⟨(blk _ (lt_of_block H.tk.blk) (one H.tk.lT)).trans H.tk.blk, own_keep H.tk.rows (fun b hb => blk b (H.tk.rows.lt b hb).2 (one (H.tk.lR b hb))), own_keep H.tk.out (fun b hb => blk b (H.tk.out.lt b hb).2 (one (H.tk.lO b hb))), fun i h hh => ?_, H.tk.few, H.tk.hand, (hE.1 _ (lt_of_block H.tk.blk)).trans H.tk.lT, fun b hb => (hE.1 _ (H.tk.rows.lt b hb).2).trans (H.tk.lR b hb), fun b hb => (hE.1 _ (H.tk.out.lt b hb).2).trans (H.tk.lO b hb), fun b h1 h2 => ?_⟩, hn, hL, H.cx.chg H.ok hW⟩, ⟨hE.1, fun b => ?_⟩, hW⟩
  · obtain ⟨S, g, r, vU, hT⟩ := H.tk.ths i h hh
    exact ⟨S, g, r, vU, hT.keep hE.1 rfl rfl (fun b hb hx => blk b hb hx.1)⟩
  · rcases hE.2 b with e | e
    · rw [e] at h1 h2 ⊢; exact H.tk.labs b h1 h2
    · unfold EB at e; omega
  · rcases hE.2 b with e | e
    · exact .inl e
    · exact .inr (.inr e)
end

section
variable {β : Type} (E : Env β) (X : Bxs β) (c : Cx) (vB : Value) (hX : Hid (BoxesAt E X c vB)) (N : Nat) (caps : Array Value) (hN : Hid (Hears E c N caps)) (o T : Nat) (L : Lab) (P : Nat → Nat) (w : World) (t : Tk) (x : β) (vR vO : Value) (H : Hid (St E c vB (.func (.func N) #[] caps) o T L P w t x vR vO)) (hlog : Hid (t.log.length ≤ 2000000))
include hX hN H hlog

set_option maxRecDepth 100000 in
set_option maxHeartbeats 1000000 in
theorem send_any (n : Nat) (hn : n < c.m.boxes.length) (hf : Hid (X.may x n)) :
    Calls Tryz.prog 49 #[.pointer (some ⟨T, 0, none⟩), .int .i64 n] w fun e w' => e = .returned (.tuple #[]) ∧ WPost E c vB (.func (.func N) #[] caps) o T L w w' (t.cut.note ⟨2, n, t.last⟩) (X.put x n t.last) := by
  obtain ⟨b, off, cap, ty, p, fF, fE, fP, fT, hv, hcell, hB⟩ := hX.out.at' n hn
  have d0 := handCell H.out
  obtain ⟨nb, hnbe⟩ : ∃ m, m = c.m.boxes.length := ⟨_, rfl⟩
  rw [← hnbe] at hv hn
  have HV := Sb.hide hv
  have HC := Sb.hide hcell
  have HB := Sb.hide hB
  have hrun := hB.runP
  have hent := hN.out.enter
  have n0 : (0 : Int) ≤ (n : Int) := by omega
  have n1 : (n : Int) < (nb : Int) := by omega
  clear hv hcell hB hnbe
  go_enter Tryz.func49, Tryz.ntmps49
  go_wp2_with fail
  refine (taken E c vB (.func (.func N) #[] caps) o T L P _ t x vR vO H).mono ?_
  rintro e w1 ⟨rfl, L1, s1, q1, k1⟩
  have b1 := (tk_cells s1.tk.blk).2.1
  rw [HV.out] at b1
  have bc := HC.out _ _ _ _ s1.en
  have S1 := Sb.hide s1
  have E1 := Sb.hide q1
  have C1 := Sb.hide k1
  clear s1 q1 k1
  go_wp2_with fail
  refine (HB.out.put L1 _ _ x t.last (Sb.hide S1.out.en) (Sb.hide S1.out.ok) hf).mono ?_
  rintro e w2 ⟨rfl, L2', h1, h2, h3, h4⟩
  obtain ⟨L2, s2, q2, k2⟩ := S1.out.boxed h1 h2 h3 h4
  have f2 := (tk_cells s2.tk.blk).2.2.1
  have S2 := Sb.hide s2
  have E2 := Sb.hide q2
  have C2 := Sb.hide k2
  clear s2 q2 k2 h1 h2 h3 h4
  go_wp2_with fail
  refine (hN.out.call ⟨2, n, t.last⟩ L2 _ _ _ (Sb.hide S2.out.en) (Sb.hide S2.out.ok) (by have := hlog.out; exact Nat.le_succ_of_le this)).mono ?_
  rintro e w3 ⟨rfl, L3, h1, h2, h3, h4⟩
  have HW := Sb.hide (((S2.out.heard h1 h2 h3 h4).trans E2.out C2.out).trans E1.out C1.out)
  clear h1 h2 h3 h4
  go_wp2
  go_end0
  exact ⟨rfl, HW.out⟩

set_option maxRecDepth 100000 in
set_option maxHeartbeats 1000000 in
theorem recv_any (n : Nat) (hn : n < c.m.boxes.length) (hf : Hid (X.empty x n = false)) :
    Calls Tryz.prog 50 #[.pointer (some ⟨T, 0, none⟩), .int .i64 n] w fun e w' => e = .returned (.tuple #[]) ∧ WPost E c vB (.func (.func N) #[] caps) o T L w w' ((t.note ⟨3, n, X.head x n⟩).put (X.head x n)) (X.take x n) := by
  obtain ⟨b, off, cap, ty, p, fF, fE, fP, fT, hv, hcell, hB⟩ := hX.out.at' n hn
  obtain ⟨nb, hnbe⟩ : ∃ m, m = c.m.boxes.length := ⟨_, rfl⟩
  rw [← hnbe] at hv hn
  have b1 := (tk_cells H.out.tk.blk).2.1
  rw [hv] at b1
  have bc := hcell _ _ _ _ H.out.en
  have HB := Sb.hide hB
  have hrun := hB.runT
  have hent := hN.out.enter
  have n0 : (0 : Int) ≤ (n : Int) := by omega
  have n1 : (n : Int) < (nb : Int) := by omega
  clear hv hcell hB hnbe
  go_enter Tryz.func50, Tryz.ntmps50
  go_wp2_with fail
  refine (HB.out.take L _ _ x (Sb.hide H.out.en) (Sb.hide H.out.ok) hf).mono ?_
  rintro e w2 ⟨rfl, L2', h1, h2, h3, h4⟩
  obtain ⟨L2, s2, q2, k2⟩ := H.out.boxed h1 h2 h3 h4
  have f2 := (tk_cells s2.tk.blk).2.2.1
  have S2 := Sb.hide s2
  have E2 := Sb.hide q2
  have C2 := Sb.hide k2
  clear s2 q2 k2 h1 h2 h3 h4
  go_wp2_with fail
  refine (hN.out.call ⟨3, n, X.head x n⟩ L2 _ _ _ (Sb.hide S2.out.en) (Sb.hide S2.out.ok) (by have := hlog.out; exact Nat.le_succ_of_le this)).mono ?_
  rintro e w3 ⟨rfl, L3', h1, h2, h3, h4⟩
  obtain ⟨L3, P3, vR3, vO3, s3, q3, k3⟩ := S2.out.heard h1 h2 h3 h4
  have S3 := Sb.hide s3
  have E3 := Sb.hide q3
  have C3 := Sb.hide k3
  clear s3 q3 k3 h1 h2 h3 h4
  go_wp2_with fail
  refine (put_any E c vB N caps hN o T L3 P3 _ _ _ vR3 vO3 S3 (Sb.hide (by have h1 := hlog.out; show (t.log ++ [_]).length ≤ 2000001; rw [List.length_append]; simp; omega)) (X.head x n)).mono ?_
  rintro e w4 ⟨rfl, hW⟩
  have HW := Sb.hide ((hW.trans E3.out C3.out).trans E2.out C2.out)
  clear hW
  go_wp2
  go_end0
  exact ⟨rfl, HW.out⟩
end
end Go.Proofs.YtnfbfdajdflfgaaGreat.Vw

