/- Boxes, as a task has them; the walks of send, recv, state, Ready. -/
import Derived.Test.YtekjhefmhhcboaaGreatM13
namespace Go.Proofs.YtekjhefmhhcboaaGreat.Vw
open Go.RowKit Vf Vm
structure BoxAt {β : Type} (E : Env β) (X : Bxs β) (c : Cx) (n : Nat) (ty : TypeId) (p : Value) (fF fE fP fT : Nat) : Prop where
 runF : ∀ w : World, Sem.run Tryz.prog (do let q ← program; let y ← method (q.types.size + 100) ty p "Full"; callFunc y.fst #[y.snd]) w = .ok (.enter fF #[p]) w
 runE : ∀ w : World, Sem.run Tryz.prog (do let q ← program; let y ← method (q.types.size + 100) ty p "Empty"; callFunc y.fst #[y.snd]) w = .ok (.enter fE #[p]) w
 runP : ∀ (v : Value) (w : World), Sem.run Tryz.prog (do let q ← program; let y ← method (q.types.size + 100) ty p "Put"; callFunc y.fst #[y.snd, v]) w = .ok (.enter fP #[p, v]) w
 runT : ∀ w : World, Sem.run Tryz.prog (do let q ← program; let y ← method (q.types.size + 100) ty p "Take"; callFunc y.fst #[y.snd]) w = .ok (.enter fT #[p]) w
 full : ∀ (L : Lab) (w : World) (l : List Ev) (x : β), Hid (E.En L w l x) → Calls Tryz.prog fF #[p] w fun e w' => e = .returned (.bool (X.full x n)) ∧ ∃ d, w' = w.drewN d
 empty : ∀ (L : Lab) (w : World) (l : List Ev) (x : β), Hid (E.En L w l x) → Calls Tryz.prog fE #[p] w fun e w' => e = .returned (.bool (X.empty x n)) ∧ ∃ d, w' = w.drewN d
 put : ∀ (L : Lab) (w : World) (l : List Ev) (x : β) (v : Int), Hid (E.En L w l x) → Hid (LOk c.B L w) → Hid (X.may x n) → Calls Tryz.prog fP #[p, .int .i64 v] w fun e w' => e = .returned (.tuple #[]) ∧ ∃ L', E.En L' w' l (X.put x n v) ∧ ExE L L' w ∧ LOk c.B L' w' ∧ Chg (EB L) w w'
 take : ∀ (L : Lab) (w : World) (l : List Ev) (x : β), Hid (E.En L w l x) → Hid (LOk c.B L w) → Hid (X.empty x n = false) → Calls Tryz.prog fT #[p] w fun e w' => e = .returned (.int .i64 (X.head x n)) ∧ ∃ L', E.En L' w' l (X.take x n) ∧ ExE L L' w ∧ LOk c.B L' w' ∧ Chg (EB L) w w'
structure BoxesAt {β : Type} (E : Env β) (X : Bxs β) (c : Cx) (vB : Value) : Prop where
 at' : ∀ n, n < c.m.boxes.length → ∃ b off cap ty p fF fE fP fT, vB = .slice (some ⟨b, off, none⟩) c.m.boxes.length cap ∧ (∀ (L : Lab) (w : World) (l : List Ev) (x : β), E.En L w l x → w.cell? ⟨b, off + n, none⟩ = some (.iface ty p)) ∧ BoxAt E X c n ty p fF fE fP fT
section
variable {β : Type} {E : Env β} {c : Cx} {vB ev : Value} {o T : Nat} {L : Lab} {P : Nat → Nat} {w w1 : World} {t : Tk} {x x' : β} {vR vO : Value}
end
section
variable {β : Type} (E : Env β) (X : Bxs β) (c : Cx) (vB : Value) (hX : Hid (BoxesAt E X c vB)) (N : Nat) (caps : Array Value) (hN : Hid (Hears E c N caps)) (o T : Nat) (L : Lab) (P : Nat → Nat) (w : World) (t : Tk) (x : β) (vR vO : Value) (H : Hid (St E c vB (.func (.func N) #[] caps) o T L P w t x vR vO)) (hlog : Hid (t.log.length ≤ 2000000))
include hX hN H hlog
end
def spk (m : Md) (i : Ins) (t : Tk) : Tk :=
 if i.op = 23 then t.call m i.a.toNat
 else if i.op = 24 then t.ret
 else if i.op = 29 then t.start m i.a.toNat
 else if i.op = 30 then t.resume
 else if i.op = 31 then t.cut.give 1 t.last
 else if i.op = 25 then t.fin
 else if i.op = 32 then t.alive
 else t.reckon i.op
structure SpkOk (c : Cx) (t : Tk) (i : Ins) : Prop where
 un : i.op = 23 ∨ i.op = 29 → ∃ n : Nat, i.a = n ∧ ∃ u, c.m.units[n]? = some u ∧ 0 ≤ u.params ∧ u.params ≤ t.top.ws.length ∧ u.params ≤ u.locals.length ∧ u.locals.length ≤ 200
 ret : i.op = 24 → ∃ f r, t.top.fs = f :: r ∧ f.base < t.top.ws.length
 res : i.op = 30 → 0 ≤ t.cut.last ∧ t.cut.last.toNat < t.ths.length
 alive : i.op = 32 → 0 ≤ t.last ∧ t.last.toNat < t.ths.length
 up : i.op = 31 ∨ i.op = 25 ∧ t.hand ≠ 0 → ∃ j, t.top.up = some j ∧ j < t.ths.length
 ups : ∀ (k : Nat) h j, t.ths[k]? = some h → h.up = some j → j < t.ths.length
section
variable {β : Type} (E : Env β) (c : Cx) (vB : Value) (N : Nat) (caps : Array Value) (hN : Hid (Hears E c N caps)) (o T : Nat) (L : Lab) (P : Nat → Nat) (w : World) (t : Tk) (x : β) (vR vO : Value) (H : Hid (St E c vB (.func (.func N) #[] caps) o T L P w t x vR vO)) (hlog : Hid (t.log.length ≤ 2000000))
include hN H hlog
end
section
variable {β : Type} {E : Env β} {c : Cx} {vB ev : Value} {o T : Nat} {L : Lab} {P : Nat → Nat} {w wb w1 : World} {t : Tk} {x : β} {vR vO : Value}
theorem WPost.under (hb : Below w.heap.size w wb) (H : WPost E c vB ev o T L wb w1 t x) : WPost E c vB ev o T L w w1 t x := by
 obtain ⟨L2, P2, vR2, vO2, h1, h2, h3⟩ := H
 have hz := hb.size
 exact ⟨L2, P2, vR2, vO2, h1, ⟨fun b hb' => h2.1 b (by omega), h2.2⟩, h3.os.trans hb.os, h3.tape.trans hb.tape, h3.output.trans hb.output, Nat.le_trans hz h3.size, fun b hb' hn => (h3.block b (by omega) hn).trans (hb.block b hb')⟩
theorem St.goto (H : St E c vB ev o T L P w t x vR vO) {h : Th} {S g r : Nat} {vU : Value} {f : Wk} {rs : List Wk} {U cap : Nat} (hh : t.ths[t.hand]? = some h) (hT : ThIn c L o t.hand P w h S g r vU) (hf : h.fs = f :: rs) (hU : vU = .slice (some ⟨U, 0, none⟩) (rs.length + 1) cap) (n : Nat) :
  ∃ L', St E c vB ev o T L' P (w.setCell ⟨U, rs.length * 3 + 1, none⟩ (.int .i64 n)) (t.goto n) x vR vO ∧ ThIn c L' o t.hand P (w.setCell ⟨U, rs.length * 3 + 1, none⟩ (.int .i64 n)) { h with fs := { f with pc := n } :: rs } S g r vU ∧ ExW o L L' w ∧ Chg (WB L o) w (w.setCell ⟨U, rs.length * 3 + 1, none⟩ (.int .i64 n)) := by
 have hg := hT.goto hf hU n
 have hl : L U = ⟨1, o, t.hand + 1, 3⟩ := hT.l3 U (by rw [hU]; rfl)
 have hp : TPost c L o t.hand P w (w.setCell ⟨U, rs.length * 3 + 1, none⟩ (.int .i64 n)) { h with fs := { f with pc := n } :: rs } := ⟨L, S, g, r, vU, hg, .refl _ _ _ _, H.ok.on (by simp [World.setCell]), (Chg.refl _ _).set (.inl (by unfold ThB; rw [hl]; exact ⟨rfl, rfl, rfl⟩)) _⟩
 have hC : Chg (WB L o) w (w.setCell ⟨U, rs.length * 3 + 1, none⟩ (.int .i64 n)) := (Chg.refl _ _).set (.inl (.inl (by rw [hl]; exact ⟨rfl, rfl⟩))) _
 obtain ⟨L1, s1, q1, k1⟩ := H.thread hh hp
 have e : t.goto n = t.set t.hand { h with fs := { f with pc := n } :: rs } := goto_of hh hf n
 rw [← e] at s1
 refine ⟨L1, s1, ?_, q1, k1⟩
 exact hg.keep (fun b hb => q1.1 b (by simpa [World.setCell] using hb)) rfl rfl (fun _ _ _ => rfl)
end
structure StepOk {β : Type} (X : Bxs β) (c : Cx) (t : Tk) (x : β) (f : Wk) (rs : List Wk) (u : Un) (i : Ins) : Prop where
 fs : t.top.fs = f :: rs
 un : c.m.units[f.u]? = some u
 code : u.code[f.pc]? = some i
 pc : f.pc ≤ 4000
 base : f.base ≤ 400
 op : 1 ≤ i.op ∧ i.op ≤ 32
 loc : i.op = 3 ∨ i.op = 4 → 0 ≤ i.a ∧ i.a < 200
 jump : i.op = 21 ∨ i.op = 22 → 0 ≤ i.a
 send : i.op = 26 → ∃ n : Nat, i.a = n ∧ n < c.m.boxes.length ∧ X.may x n
 recv : i.op = 27 → ∃ n : Nat, i.a = n ∧ n < c.m.boxes.length ∧ X.empty x n = false
 out : t.out.length ≤ 1000000
 log : t.log.length ≤ 2000000
 spk : SpkOk c (t.goto (f.pc + 1)) i
section
variable {β : Type} (E : Env β) (X : Bxs β) (c : Cx) (vB : Value) (N : Nat) (caps : Array Value) (hN : Hid (Hears E c N caps)) (o T : Nat) (L : Lab) (P : Nat → Nat) (w : World) (t : Tk) (x : β) (vR vO : Value) (H : Hid (St E c vB (.func (.func N) #[] caps) o T L P w t x vR vO))
include hN H
end
end Go.Proofs.YtekjhefmhhcboaaGreat.Vw
