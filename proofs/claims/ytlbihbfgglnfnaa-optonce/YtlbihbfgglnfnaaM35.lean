/- The walk of opt.shorter: WHAT shorter ANSWERS. -/
import Derived.Test.YtlbihbfgglnfnaaM34
import Derived.Test.YtlbihbfgglnfnaaM1
namespace Go.Proofs.Ytlbihbfgglnfnaa.Ow
open Go.RowKit Vf Vm Ot

def lenAt (w : World) (P : Nat) : Nat := match w.cell? ⟨P, 0, none⟩ with
  | some (.slice _ n _) => n
  | _ => 0
theorem len_at {w : World} {P g n cap R M W n0 : Nat} (h : w.heap[P]? = some (psO g n cap R M W n0)) : lenAt w P = n := by
  unfold lenAt
  rw [(ps_cells h).1]
theorem pch_below {w w1 w' : World} {P g M W : Nat} (h : Below w.heap.size w w1) (hc : Pch (Sg P g M W) w1 w') (hP : w.heap.size ≤ P) (hg : w.heap.size ≤ g) (hM : w.heap.size ≤ M) (hW : w.heap.size ≤ W) : Below w.heap.size w w' :=
  ⟨hc.os.trans h.os, hc.tape.trans h.tape, hc.output.trans h.output, Nat.le_trans h.size hc.size, fun k hk => (hc.block k (Nat.lt_of_lt_of_le hk h.size) (fun e => by rcases e with e | e | e | e <;> omega)).trans (h.block k hk)⟩
theorem code_wide {B C : Nat} {w : World} {l : List Ins} {a : Option Addr} (h : CodeIn B w l a) (hB : B ≤ C) : CodeIn C w l a := fun i x hx => by
  obtain ⟨h1, h2, h3, b, o, e, hb, c0⟩ := h i x hx
  exact ⟨h1, h2, h3, b, o, e, by omega, c0⟩
set_option maxHeartbeats 2000000 in
set_option maxRecDepth 100000 in
theorem shorter_any (B : Nat) (l : List Ins) (a : Option Addr) (c : Nat) (w : World) (h : Hid (CodeIn B w l a)) (hB : B ≤ w.heap.size) (hl0 : 0 < l.length) (hl : l.length ≤ 4000) (hj : Hid (Jumps l)) :
    Calls Try.prog 13 #[.slice a l.length c] w fun e w' => ∃ g cap, e = .returned (.slice (some ⟨g, 0, none⟩) (short l).length cap) ∧ (short l).length ≤ cap ∧ CodeIn w'.heap.size w' (short l) (some ⟨g, 0, none⟩) ∧ Rowed w' (some ⟨g, 0, none⟩) ∧ Below w.heap.size w w' := by
  go_enter Try.func13, Try.ntmps13
  go_wp2_with fail
  refine (newPasses_any B l a c w h hB hl0 hl).mono ?_
  rintro e w1 ⟨P, rfl, hNew⟩
  obtain ⟨lo, hi, w0, g, cap, R, M, W, fs, hp, ha, hc, hgB, hc1, hc2, sP, sg, sM, sW⟩ := hNew.all
  have HP1 := hide hp
  have HA := hide ha
  have HC1 := hide hc
  have HB1 := hide hNew.below
  have HGB := hide hgB
  clear hp ha hc hNew hgB
  go_wp2
  go_loopw [] (fun wr => ∃ (l' : List Ins) (f : Nat) (aim : Nat → Bool), short l = shorter (f + 1) l' ∧ l'.length ≤ f + 1 ∧ 0 < l'.length ∧ l'.length ≤ l.length ∧ Jumps l' ∧ PsIn lo hi w0 P g l'.length cap R M W l.length fs aim wr ∧ CdIn g cap W l.length w1.heap.size l' wr ∧ Pch (Sg P g M W) w1 wr) (fun wr => lenAt wr P)
  case atStart => exact ⟨l, l.length - 1, fun _ => false, by unfold short; rw [show l.length - 1 + 1 = l.length by omega], by omega, hl0, Nat.le_refl _, hj.out, HP1.out, HC1.out, Pch.refl _ _⟩
  case round =>
    obtain ⟨l', f, aim, h1, h2, h3, h4, h5, h6, h7, h8⟩ := hrel
    have H1 := hide h1
    have H6 := hide h6
    have H8 := hide h8
    have hov := over_any lo hi w0 P g cap R M W l.length w1.heap.size fs l' aim wr (hide h6) HA (hide h7) h8.size HGB.out h3 h4 hl ⟨hc1, hc2⟩ (hide h5)
    obtain ⟨b, hb⟩ : ∃ b, b = decide ((over l').length < l'.length) := ⟨_, rfl⟩
    rw [← hb] at hov
    have HOV := hide hov
    have HBB := hide hb
    have HJ := hide h5
    clear h1 h5 h6 h7 h8 hov hb
    go_wp2_with fail
    refine HOV.out.mono ?_
    rintro e w2 ⟨rfl, hp2, hc2', hch2⟩
    have HP2 := hide hp2
    have HC2 := hide hc2'
    have HCH2 := hide (H8.out.trans hch2)
    clear hp2 hc2' hch2 HOV
    cases b with
    | true =>
      have hlt : (over l').length < l'.length := of_decide_eq_true HBB.out.symm
      have hpos := over_pos h3
      have HS : Hid (short l = shorter f (over l')) := by
        unfold Hid
        rw [H1.out, shorter, if_pos hlt]
      have HM : Hid (lenAt w2 P < lenAt wr P) := by unfold Hid; rw [len_at HP2.out.ps, len_at H6.out.ps]; exact hlt
      obtain ⟨f', rfl⟩ : ∃ f', f = f' + 1 := ⟨f - 1, by omega⟩
      go_wp2
      go_roundw
      case rel => exact ⟨over l', f', aimed l', HS.out, by omega, hpos, by omega, over_jumps HJ.out, HP2.out, HC2.out, HCH2.out⟩
      case measure => exact HM.out
    | false =>
      have hlt : ¬ (over l').length < l'.length := of_decide_eq_false HBB.out.symm
      have hle := over_le l'
      have HS : Hid (short l = over l') := by
        unfold Hid
        rw [H1.out, shorter, if_neg hlt]
      obtain ⟨q0, _, _, _⟩ := ps_cells HP2.out.ps
      obtain ⟨n, hn⟩ : ∃ n, n = (over l').length := ⟨_, rfl⟩
      rw [← hn] at q0
      have HE : Hid (n ≤ cap ∧ CodeIn w2.heap.size w2 (short l) (some ⟨g, 0, none⟩) ∧ Rowed w2 (some ⟨g, 0, none⟩) ∧ Below w.heap.size w w2 ∧ (short l).length = n) := by
        refine ⟨by omega, by rw [HS.out]; exact code_wide HC2.out.code HCH2.out.size, fun ad ha => (by cases ha; obtain ⟨cur, h1, _⟩ := HC2.out.blk; exact ⟨cur, _, h1, .inr rfl⟩), pch_below HB1.out HCH2.out sP sg sM sW, by rw [HS.out, hn]⟩
      clear hlt hle hn
      go_wp2
      go_ret
      obtain ⟨e1, e2, e3, e4, e5⟩ := HE.out
      exact ⟨g, cap, by rw [e5]; rfl, by rw [e5]; exact e1, e2, e3, e4⟩
end Go.Proofs.Ytlbihbfgglnfnaa.Ow

/- A unit, a module in a block of their own. -/
namespace Go.Proofs.Ytlbihbfgglnfnaa.Aw
open Go.RowKit

abbrev unO (u : Vf.Un) (al ac : Option Addr) (cl cc : Nat) : Obj := .cells #[.int .i64 u.kind, .int .i64 u.params, .slice al u.locals.length cl, .int .i64 u.result, .int .i64 u.takes, .slice ac u.code.length cc] 38 (0, 0)
theorem un_cells {w : World} {N : Nat} {u : Vf.Un} {al ac : Option Addr} {cl cc : Nat} (h : w.heap[N]? = some (unO u al ac cl cc)) :
    w.cell? ⟨N, 0, none⟩ = some (.int .i64 u.kind) ∧ w.cell? ⟨N, 1, none⟩ = some (.int .i64 u.params) ∧ w.cell? ⟨N, 2, none⟩ = some (.slice al u.locals.length cl) ∧ w.cell? ⟨N, 3, none⟩ = some (.int .i64 u.result) ∧ w.cell? ⟨N, 4, none⟩ = some (.int .i64 u.takes) ∧ w.cell? ⟨N, 5, none⟩ = some (.slice ac u.code.length cc) := by
  simp [World.cell?, h]
theorem md_cells {w : World} {k : Nat} {x y : Value} (h : w.heap[k]? = some (.cells #[x, y] 25 (0, 0))) : w.cell? ⟨k, 0, none⟩ = some x ∧ w.cell? ⟨k, 1, none⟩ = some y := by
  simp [World.cell?, h]
abbrev mdO (m : Vf.Md) (ab au : Option Addr) (cb cu : Nat) : Obj := .cells #[.slice ab m.boxes.length cb, .slice au m.units.length cu] 25 (0, 0)

end Go.Proofs.Ytlbihbfgglnfnaa.Aw

