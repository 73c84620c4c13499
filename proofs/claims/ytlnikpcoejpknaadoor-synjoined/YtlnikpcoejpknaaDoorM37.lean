/- What syn.Read answers, as a plain function; the walk of its closure. -/
import Derived.Test.YtlnikpcoejpknaaDoorM36
import Derived.Test.YtlnikpcoejpknaaDoorM16
namespace Go.Proofs.YtlnikpcoejpknaaDoor
open Go.RowKit

/-- What Read answers: the definitions, what is wrong, and where. -/
def readL (s : ByteArray) : List Sy.Df × Int × Int :=
  if (Lx.lexB s).2.1 ≠ 0 then ([], (Lx.lexB s).2.1, (Lx.lexB s).2.2)
  else match Rp.program (Lx.lexB s).1 s.size with
    | .error e => ([], e.1, e.2)
    | .ok x => if (Sy.wrongL x.2).1 ≠ 0 then ([], (Sy.wrongL x.2).1, 0) else (x.2, 0, 0)

abbrev outO (v : Value) : Obj := .cells #[v] 22 (0, 0)

set_option maxRecDepth 100000 in
set_option maxHeartbeats 1000000 in
/-- What comes of the closure: the box at N has the program, or a fault is thrown. -/
theorem read1_f (E : Env) (G : Good E) (N : Nat) (r : Res (List Sy.Df)) (w : World) (h : Hid (Rdy E w 0 0)) (hN : Hid (w.heap[N]? = some (outO (.slice none 0 0)))) (hNR : N < E.R) (hr : Hid (r = Rp.program E.l E.en)) :
    Calls Tryd.prog 25 #[.pointer (some ⟨E.R, 0, none⟩), .pointer (some ⟨N, 0, none⟩)] w fun e w' => match r with
      | .ok (_, l) => e = .returned (.tuple #[]) ∧ ∃ v u, PgV w u l v ∧ w.grownBy u (some E.R) ∧ w' = u.setCell ⟨N, 0, none⟩ v ∧ w'.heap[N]? = some (outO v)
      | .error (er, at') => e = .panicked [fltE er at'] ∧ w.grownBy w' (some E.R) := by
  go_enter Tryd.func25, Tryd.ntmps25
  go_wp2_with fail
  refine (prog_f E G r _ h hr).mono ?_
  rintro e w1 ⟨hg1, hf1⟩
  have HG1 := hide2 hg1
  have hN1 : w1.heap[N]? = some (outO (.slice none 0 0)) := kept_on hg1 (by omega) hN.out
  obtain ⟨c0, f0⟩ := box_cell hN1
  have HN1 := hide2 hN1
  clear hg1 hN1
  cases r with
  | error er =>
    obtain ⟨e1, e2⟩ := er
    obtain ⟨rfl, hd1⟩ := hf1
    clear hd1
    go_wp2
    exact ⟨rfl, rfl, HG1.out⟩
  | ok qx =>
    obtain ⟨q, l⟩ := qx
    obtain ⟨⟨v, rfl, hv⟩, hd1⟩ := hf1
    have HV := hide2 hv
    obtain ⟨a, c, rfl, _, _⟩ := hv
    clear hd1
    go_wp2
    go_end0
    refine ⟨rfl, _, w1, HV.out, HG1.out, rfl, ?_⟩
    have h1 := HN1.out
    simp only [World.setCell, Array.getElem?_modify, if_true, h1, Option.map_some]
    rfl

end Go.Proofs.YtlnikpcoejpknaaDoor

/- syn.Read, where the text has no tokens. -/
namespace Go.Proofs.YtlnikpcoejpknaaDoor
open Go.RowKit

theorem two_set {w : World} {N : Nat} {a b : Int} {t : TypeId} (h : w.heap[N]? = some (.cells #[.int .i64 a, .int .i64 b] t (0, 0))) (x y : Int) : ((w.setCell ⟨N, 0, none⟩ (.int .i64 x)).setCell ⟨N, 1, none⟩ (.int .i64 y)).heap[N]? = some (.cells #[.int .i64 x, .int .i64 y] t (0, 0)) := by
  simp only [World.setCell, Array.getElem?_modify, if_true, h, Option.map_some]
  rfl

set_option maxRecDepth 100000 in
set_option maxHeartbeats 1000000 in
theorem read_lex (s : ByteArray) (w : World) (hs : s.size ≤ maxLen) (hE : (Lx.lexB s).2.1 ≠ 0) :
    Calls Tryd.prog 10 #[.string s] w fun e w' => e = .returned (.tuple #[.slice none 0 0, .agg #[.int .i64 (Lx.lexB s).2.1, .int .i64 (Lx.lexB s).2.2]]) ∧ Below w.heap.size w w' := by
  obtain ⟨er, her⟩ : ∃ er : Nat, er = (Lx.lexB s).2.1 := ⟨_, rfl⟩
  obtain ⟨num, hnum⟩ : ∃ num : Nat, num = (Lx.lexB s).2.2 := ⟨_, rfl⟩
  have HT := hide2 (tokens_any s ((w.alloc (outO (.slice none 0 0))).alloc Z2C) hs)
  rw [← her, ← hnum] at HT
  rw [← her] at hE
  rw [← her, ← hnum]
  have e1 : ((er : Int) != 0) = true := by simp; omega
  clear her hnum hE
  go_enter Tryd.func10, Tryd.ntmps10
  go_wp2_with fail
  refine HT.out.mono ?_
  rintro e w1 ⟨v, rfl, hown, hb⟩
  have HB : Hid (Below w.heap.size w w1) := (((Below.refl _ w).alloc (Nat.le_refl _) _).alloc (by simp) _).trans (hb.mono (by simp; omega))
  have hN : w1.heap[w.heap.size]? = some (outO (.slice none 0 0)) := (hb.block _ (by simp; omega)).trans ((Below.heap_alloc _ _ _ (by simp)).trans (heap_alloc_new w _))
  have hF : w1.heap[w.heap.size + 1]? = some Z2C := (hb.block _ (by simp)).trans (by have := heap_alloc_new (w.alloc (outO (.slice none 0 0))) Z2C; simpa using this)
  obtain ⟨c0, f0⟩ := box_cell hN
  obtain ⟨z0, z1, y0, y1⟩ := two_cell hF
  have hF5 : (((((w1.setCell ⟨w.heap.size + 1, 0, none⟩ (.int .i64 er)).setCell ⟨w.heap.size + 1, 1, none⟩ (.int .i64 num)).setCell ⟨w.heap.size, 0, none⟩ (.slice none 0 0)).setCell ⟨w.heap.size + 1, 0, none⟩ (.int .i64 er)).setCell ⟨w.heap.size + 1, 1, none⟩ (.int .i64 num)).heap[w.heap.size + 1]? = some (.cells #[.int .i64 er, .int .i64 num] 25 (0, 0)) := two_set ((Below.heap_setCell _ ⟨w.heap.size, 0, none⟩ _ _ (by show w.heap.size + 1 ≠ w.heap.size; omega)).trans (two_set hF er num)) er num
  obtain ⟨p0, p1, _, _⟩ := two_cell hF5
  have P0 := hide2 p0
  have P1 := hide2 p1
  clear hown hb hN hF HT hF5 p0 p1
  go_wp2
  go_region
  all_goals
    go_wp2
    refine bodyPost_ret (v := .tuple #[.slice none 0 0, .agg #[.int .i64 er, .int .i64 num]]) (by simp [results, Tryd.results10, go_sem, c0, P0.out, P1.out]) rfl ⟨rfl, ?_⟩
    repeat (first | exact HB.out | exact HB.out.drew | refine Below.setCell ?_ (by first | exact Nat.le_refl _ | exact Nat.le_succ _) _ | refine Below.drew ?_)

end Go.Proofs.YtlnikpcoejpknaaDoor

