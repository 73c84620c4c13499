/- The walk of opt.over: a pass. -/
import Derived.Test.YtlbihbfgglnfnaaM30
import Derived.Test.YtlbihbfgglnfnaaM1
import Derived.ChangeArms
import Derived.DataReads
namespace Go.Proofs.Ytlbihbfgglnfnaa.Ow
open Go.RowKit Vf Vm Ot

theorem now_all {ps : List (Nat × Ch)} {N : Nat} (h : ∀ p ∈ ps, p.1 < N) : now ps N = (out ps).length := by
  induction ps with
  | nil => rfl
  | cons p ps ih =>
    rw [now, if_pos (h p List.mem_cons_self), ih (fun q hq => h q (List.mem_cons_of_mem _ hq))]
    show _ = (p.2.2 ++ out ps).length
    rw [List.length_append]
theorem now_end (l : List Ins) : now (all l) l.length = (out (all l)).length := now_all (fun _ hp => (pieces_mem l _ _ _ hp).2.1)
theorem pieces_apart (l : List Ins) : ∀ (f k x y : Nat), Begins (pieces l f k) x → Begins (pieces l f k) y → x < y → x + (change l x).1 ≤ y
  | 0, _, _, _, ⟨c, h⟩, _, _ => by cases h
  | f + 1, k, x, y, ⟨c, hx⟩, ⟨d, hy⟩, hlt => by
    have hp := change_len l k
    by_cases hk : k < l.length
    · rw [pieces, if_pos hk] at hx hy
      rcases List.mem_cons.1 hy with h | hy'
      · cases h
        rcases List.mem_cons.1 hx with h | hx'
        · cases h; omega
        · have h1 : k + (change l k).1 ≤ x := (pieces_mem l _ _ _ hx').1
          omega
      · have h1 : k + (change l k).1 ≤ y := (pieces_mem l _ _ _ hy').1
        rcases List.mem_cons.1 hx with h | hx'
        · cases h; exact h1
        · exact pieces_apart l f _ x y ⟨c, hx'⟩ ⟨d, hy'⟩ hlt
    · rw [pieces, if_neg hk] at hx
      cases hx
theorem inside {l : List Ins} {x y : Nat} (hx : Begins (all l) x) (hy : Begins (all l) y) (h1 : x < y) (h2 : y < x + (change l x).1) : False := by
  have := pieces_apart l _ _ x y hx hy h1
  omega
/-- The code of passes, and room for it. -/
structure CdIn (g cap W n0 B : Nat) (l : List Ins) (w : World) : Prop where
  code : CodeIn B w l (some ⟨g, 0, none⟩)
  blk : Blk w g 41 (cap * 3)
  now : Blk w W 3 n0
/-- Where a pass stands. -/
structure OvAt (g cap W n0 B : Nat) (l : List Ins) (x : Nat) (o : List Ins) (w : World) : Prop where
  le : x ≤ l.length
  at' : x = l.length ∨ Begins (all l) x
  len : o.length = now (all l) x
  few : o.length ≤ x
  pre : o = (out (all l)).take o.length
  left : CodeIn B w o (some ⟨g, 0, none⟩)
  rest : CodeIn B w (l.drop x) (some ⟨g, x * 3, none⟩)
  blk : Blk w g 41 (cap * 3)
  nowb : Blk w W 3 n0
  nows : ∀ y, y < x → Begins (all l) y → w.cell? ⟨W, y, none⟩ = some (.int .i64 (now (all l) y : Nat))
theorem OvAt.start {g cap W n0 B : Nat} {l : List Ins} {w : World} (h : CdIn g cap W n0 B l w) (hl : 0 < l.length) : OvAt g cap W n0 B l 0 [] w :=
  ⟨Nat.zero_le _, .inr (begins_zero hl), by rw [now_zero]; rfl, Nat.le_refl _, by simp, fun i x hx => (by simp at hx), by rw [List.drop_zero, Nat.zero_mul]; exact h.code, h.blk, h.now, fun y hy => by omega⟩
theorem OvAt.on {g cap W n0 B : Nat} {l o : List Ins} {x : Nat} {w w' : World} (h : OvAt g cap W n0 B l x o w) (hg : w'.heap[g]? = w.heap[g]?) (hW : w'.heap[W]? = w.heap[W]?) : OvAt g cap W n0 B l x o w' :=
  ⟨h.le, h.at', h.len, h.few, h.pre, code_keep h.left hg, code_keep h.rest hg, h.blk.keep hg, h.nowb.keep hW, fun y hy hb => (cell_eq hW _).trans (h.nows y hy hb)⟩
/-- A piece more: nothing is put there. -/
theorem drop_code {B : Nat} {w : World} {l : List Ins} {g x k : Nat} (h : CodeIn B w (l.drop x) (some ⟨g, x * 3, none⟩)) : CodeIn B w (l.drop (x + k)) (some ⟨g, (x + k) * 3, none⟩) := fun i c hc => by
  rw [List.getElem?_drop] at hc
  obtain ⟨h1, h2, h3, b, o, e, hb, c0, c1, c2⟩ := h (k + i) c (by rw [List.getElem?_drop, ← Nat.add_assoc]; exact hc)
  cases e
  refine ⟨h1, h2, h3, g, (x + k) * 3, rfl, hb, ?_, ?_, ?_⟩
  · rw [show (x + k) * 3 + i * 3 = x * 3 + (k + i) * 3 by omega]; exact c0
  · rw [show (x + k) * 3 + i * 3 + 1 = x * 3 + (k + i) * 3 + 1 by omega]; exact c1
  · rw [show (x + k) * 3 + i * 3 + 2 = x * 3 + (k + i) * 3 + 2 by omega]; exact c2
theorem on_at {l : List Ins} {x : Nat} (hx : x < l.length) : x + (change l x).1 ≤ l.length := by
  rcases (change_len l x).2.2 with e | ⟨_, h, _⟩
  · rw [e]; exact hx
  · omega
/-- Behind a piece. -/
theorem OvAt.next {g cap W n0 B : Nat} {l o : List Ins} {x : Nat} {w w' : World} (h : OvAt g cap W n0 B l x o w) (hx : x < l.length) (hW : x < n0)
    (hleft : CodeIn B w' (o ++ (change l x).2) (some ⟨g, 0, none⟩)) (hrest : CodeIn B w' (l.drop (x + (change l x).1)) (some ⟨g, (x + (change l x).1) * 3, none⟩)) (hblk : Blk w' g 41 (cap * 3)) (hnow : Blk w' W 3 n0) (hc : ∀ y, y ≠ x → w'.cell? ⟨W, y, none⟩ = w.cell? ⟨W, y, none⟩) (hcx : w'.cell? ⟨W, x, none⟩ = some (.int .i64 (o.length : Nat))) : OvAt g cap W n0 B l (x + (change l x).1) (o ++ (change l x).2) w' := by
  have hb : Begins (all l) x := by
    rcases h.at' with e | e
    · omega
    · exact e
  have hlen := (change_len l x)
  have hn := begins_now hb
  refine ⟨on_at hx, ?_, by rw [List.length_append, h.len, hn], ?_, ?_, hleft, hrest, hblk, hnow, fun y hy hby => ?_⟩
  · by_cases e : x + (change l x).1 < l.length
    · exact .inr (begins_next hb e)
    · have := on_at hx
      exact .inl (by omega)
  · have h1 := h.few
    have : (change l x).2.length ≤ (change l x).1 := by omega
    rw [List.length_append]
    omega
  · have h1 := begins_out hb
    rw [← h.len] at h1
    rw [List.length_append]
    conv => lhs; rw [h.pre]
    rw [List.take_add]
    congr 1
    rw [h1, List.take_left]
  · by_cases e : y = x
    · subst e
      rw [hcx, h.len]
    · rw [hc y e]
      refine h.nows y ?_ hby
      -- no piece begins within another one
      refine Classical.byContradiction fun hlt => ?_
      exact inside hb hby (by omega) hy

/-- From where what is put there is read. -/
theorem ch_src {w w' : World} {B g cap W x : Nat} {l : List Ins} {v : Value} (h : ChIs w w' g cap l x v) (hC : CodeIn B w' (l.drop x) (some ⟨g, x * 3, none⟩)) (hB : B ≤ w'.heap.size) (hW : W < w.heap.size) (hgW : g ≠ W) :
    ((change l x).2 = [] ∧ v = .slice none 0 0) ∨ ∃ c b off cp, (change l x).2 = [c] ∧ v = .slice (some ⟨b, off, none⟩) 1 cp ∧ b ≠ W ∧ b < w'.heap.size ∧ w'.cell? ⟨b, off, none⟩ = some (.int .i64 c.op) ∧ w'.cell? ⟨b, off + 1, none⟩ = some (.int .i64 c.a) ∧ w'.cell? ⟨b, off + 2, none⟩ = some (.int .i64 c.n) := by
  rcases h with (h | ⟨c, q, h1, h2, h3, h4⟩) | ⟨h1, c, h2, h3⟩
  · exact .inl h
  · refine .inr ⟨c, q, 0, 1, h1, h2, by omega, lt_of_block h4, ?_, ?_, ?_⟩ <;> simp [World.cell?, h4]
  · obtain ⟨hb, c0, c1, c2⟩ := code_cells hC (i := 0) (x := c) (by rw [List.getElem?_drop, Nat.add_zero]; exact h2)
    rw [Nat.zero_mul, Nat.add_zero] at c0 c1 c2
    exact .inr ⟨c, g, x * 3, _, by rw [h3], h1, hgW, by omega, c0, c1, c2⟩

abbrev Sg (P g M W : Nat) : Nat → Prop := fun k => k = P ∨ k = g ∨ k = M ∨ k = W
theorem PsIn.pch {lo hi : Nat} {w0 : World} {P g n cap R M W n0 : Nat} {fs : List (Nat × Array Value)} {aim : Nat → Bool} {w w' : World} (h : PsIn lo hi w0 P g n cap R M W n0 fs aim w) (ha : Ap lo hi P g M W) {S : Nat → Prop} (hc : Pch S w w') (hS : ∀ k, S k → k = g ∨ k = W) : PsIn lo hi w0 P g n cap R M W n0 fs aim w' := by
  have hP := ha.pg
  have hPW := ha.pw
  have hM := ha.gm
  have hMW := ha.mw
  have o1 := ha.oG
  have o2 := ha.oW
  refine ⟨(hc.block P (lt_of_block h.ps) (fun e => by rcases hS _ e with e | e; exact hP e; exact hPW e)).trans h.ps, h.rls, fun j h1 h2 => (hc.block j (Nat.lt_of_lt_of_le h2 h.his) (fun e => by rcases hS _ e with e | e <;> omega)).trans (h.held j h1 h2), h.aims.keep (hc.block M h.aims.lt (fun e => by rcases hS _ e with e | e; exact hM e.symm; exact hMW e)), Nat.le_trans h.his hc.size⟩

set_option maxHeartbeats 4000000 in
set_option maxRecDepth 100000 in
theorem over_any (lo hi : Nat) (w0 : World) (P g cap R M W n0 B : Nat) (fs : List (Nat × Array Value)) (l : List Ins) (aim0 : Nat → Bool) (w : World) (hP : Hid (PsIn lo hi w0 P g l.length cap R M W n0 fs aim0 w)) (ha : Hid (Ap lo hi P g M W)) (hC : Hid (CdIn g cap W n0 B l w)) (hB : B ≤ w.heap.size) (hgB : g < B) (hl0 : 0 < l.length) (hl : l.length ≤ n0) (hn0 : n0 ≤ 4000) (hcap : n0 ≤ cap ∧ cap ≤ 9223372036854775807) (hj : Hid (Jumps l)) :
    Calls Try.prog 23 #[.pointer (some ⟨P, 0, none⟩)] w fun e w' => e = .returned (.bool (decide ((over l).length < l.length))) ∧ PsIn lo hi w0 P g (over l).length cap R M W n0 fs (aimed l) w' ∧ CdIn g cap W n0 B (over l) w' ∧ Pch (Sg P g M W) w w' := by
  obtain ⟨n, hn⟩ : ∃ n, n = l.length := ⟨_, rfl⟩
  have HN := hide hn
  rw [← hn] at hl hl0
  have n1 : (n : Int) ≤ 4000 := by omega
  have n2 : (n : Int) ≤ (cap : Int) := by omega
  have n3 : (n : Int) ≤ (n0 : Int) := by omega
  clear hn
  go_enter Try.func23, Try.ntmps23
  go_wp2_with fail
  refine (aim_any lo hi w0 P g cap R M W n0 B fs l aim0 w hP ha (hide hC.out.code) hB (by rw [← HN.out]; omega) hj).mono ?_
  rintro e w1 ⟨rfl, hp1, hg1⟩
  have HP1 := hide hp1
  have HC1 : Hid (CdIn g cap W n0 B l w1) := ⟨code_gm hC.out.code hB hg1 ha.out.gm, hC.out.blk.keep (hg1.block g hC.out.blk.lt (by intro e; cases e; exact ha.out.gm rfl)), hC.out.now.keep (hg1.block W hC.out.now.lt (by intro e; cases e; exact ha.out.mw rfl))⟩
  have HW1 : Hid (Pch (Sg P g M W) w w1) := .gm hg1 (.inr (.inr (.inl rfl)))
  have HB1 : Hid (B ≤ w1.heap.size) := Nat.le_trans hB hg1.size
  rw [← HN.out] at HP1
  clear hp1 hg1
  obtain ⟨q0, q1, q2, q3⟩ := ps_cells HP1.out.ps
  go_wp2
  clear q0 q1 q2 q3
  go_loopw [3, 4] (fun v i wr => ∃ (x : Nat) (o : List Ins), v = .slice (some ⟨g, 0, none⟩) o.length cap ∧ i = .int .i64 x ∧ OvAt g cap W n0 B l x o wr ∧ Pch (fun k => k = g ∨ k = W) w1 wr) (fun _ i _ => n - (intOf i).toNat)
  case atStart => exact ⟨0, [], rfl, rfl, OvAt.start HC1.out (by rw [← HN.out]; exact hl0), Pch.refl _ _⟩
  case round =>
    obtain ⟨x, o, rfl, rfl, hO, hCh⟩ := hrel
    have HO := hide hO
    have HCH := hide hCh
    have HPR := hide (HP1.out.pch ha.out hCh (fun _ h => h))
    have hxn : x ≤ n := by rw [HN.out]; exact hO.le
    have hox : o.length ≤ x := hO.few
    clear hO hCh
    obtain ⟨q0, q1, q2, q3⟩ := ps_cells HPR.out.ps
    by_cases hlt : x < n
    · have x1 : (x : Int) < (n : Int) := by omega
      have hxl : x < l.length := by rw [← HN.out]; exact hlt
      have HXL := hide hxl
      have hch := change_any lo hi w0 P g cap R M W n0 B x fs l wr (by rw [← HN.out]; exact HPR) (hide HO.out.rest) (Nat.le_trans HB1.out HCH.out.size) (by rw [← HN.out]; omega) hxl ⟨by rw [← HN.out]; omega, hcap.2⟩
      obtain ⟨gn, hgn⟩ : ∃ gn, gn = (change l x).1 := ⟨_, rfl⟩
      rw [← hgn] at hch
      have HCA := hide hch
      have HGN := hide hgn
      clear hch hxl hgn
      go_wp2_with fail
      refine HCA.out.mono ?_
      rintro e w2 ⟨v, m, c, rfl, hcx, hb2⟩
      have hWl := HO.out.nowb.lt
      have hgl := HO.out.blk.lt
      have hsrc := ch_src hcx (code_keep HO.out.rest (hb2.block g hgl)) (Nat.le_trans HB1.out (Nat.le_trans HCH.out.size hb2.size)) hWl ha.out.gw
      obtain ⟨W3, hW3⟩ : ∃ W3, W3 = w2.alloc (.cells #[.int .i64 gn, .slice v m c] 82) := ⟨_, rfl⟩
      have hb3 : Below wr.heap.size wr W3 := by rw [hW3]; exact below_onO hb2 (one_below _ _)
      have hbx : W3.heap[w2.heap.size]? = some (.cells #[.int .i64 gn, .slice v m c] 82 (0, 0)) := by rw [hW3]; exact heap_alloc_new _ _
      have hb23 : Below w2.heap.size w2 W3 := by rw [hW3]; exact one_below _ _
      have HO3 := hide (HO.out.on (hb3.block g hgl) (hb3.block W hWl))
      have HCH3 : Hid (Pch (fun k => k = g ∨ k = W) w1 W3) := HCH.out.trans (.of hb3)
      have HPS := hide (HP1.out.pch ha.out HCH3.out (fun _ h => h))
      have HBX := hide hbx
      have HW3 := hide hW3.symm
      have hw2W : ¬ w2.heap.size = W := by have := hb2.size; omega
      have hw2W' : ¬ W = w2.heap.size := fun e => hw2W e.symm
      have hw2g : ¬ w2.heap.size = g := by have := hb2.size; omega
      have HB23 := hide hb23
      have HSRC := hide hsrc
      clear hW3 hb3 hbx hcx hb2 hb23 hsrc q0 q1 q2 q3 HCA
      go_upto_region 6 with fail
      rw [HW3.out]
      clear HW3
      obtain ⟨q0, q1, q2, q3⟩ := ps_cells HPS.out.ps
      obtain ⟨a0, a1, _, _⟩ := ch_cells HBX.out
      have x2 : (x : Int) < (n0 : Int) := by omega
      have x0 : (0 : Int) ≤ (x : Int) := by omega
      obtain ⟨y, hy⟩ := Option.isSome_iff_exists.1 (HO3.out.nowb.cell (i := x) (by omega)).1
      have hyf := (HO3.out.nowb.cell (i := x) (by omega)).2
      have g1 : (x : Int) + (gn : Int) ≤ 4000 := by
        have := on_at HXL.out
        rw [← HGN.out, ← HN.out] at this
        omega
      have hoc : o.length ≤ cap := by omega
      obtain ⟨ol, hol⟩ : ∃ ol, ol = o.length := ⟨_, rfl⟩
      rw [← hol]
      have HOL := hide hol
      have HBE : Hid (∀ W4 : World, W4 = W3.setCell ⟨W, x, none⟩ (.int .i64 (ol : Nat)) → Blk W4 g 41 (cap * 3) ∧ Blk W4 W 3 n0 ∧ CodeIn B W4 o (some ⟨g, 0, none⟩) ∧ CodeIn B W4 (l.drop x) (some ⟨g, x * 3, none⟩) ∧ (∀ y, y ≠ x → W4.cell? ⟨W, y, none⟩ = W3.cell? ⟨W, y, none⟩) ∧ W4.cell? ⟨W, x, none⟩ = some (.int .i64 (ol : Nat)) ∧ Pch (fun k => k = g ∨ k = W) w1 W4) := fun W4 e => by
        subst e
        have hgk : (W3.setCell ⟨W, x, none⟩ (.int .i64 (ol : Nat))).heap[g]? = W3.heap[g]? := Below.heap_setCell _ ⟨W, x, none⟩ _ _ ha.out.gw
        exact ⟨HO3.out.blk.keep hgk, HO3.out.nowb.set _ _, code_keep HO3.out.left hgk, code_keep HO3.out.rest hgk, fun y hy => set_other (fun _ => hy), set_same hy, HCH3.out.set _ (.inr rfl) _⟩
      clear hol
      rcases HSRC.out with ⟨hput, hv⟩ | ⟨c', b, off, cp, hput, hv, hbW, hbl, k0, k1, k2⟩
      · cases hv
        have hrun := run_none (w := W3.setCell ⟨W, x, none⟩ (.int .i64 (ol : Nat))) (g := g) (n := ol) (cap := cap) (by rw [HOL.out]; exact hoc)
        have HE : Hid (OvAt g cap W n0 B l (x + gn) o (W3.setCell ⟨W, x, none⟩ (.int .i64 (ol : Nat)))) := by
          obtain ⟨e1, e2, e3, e4, e5, e6, _⟩ := HBE.out _ rfl
          have := HO3.out.next (w' := W3.setCell ⟨W, x, none⟩ (.int .i64 (ol : Nat))) HXL.out (by omega) (by rw [hput, List.append_nil]; exact e3) (drop_code e4) e1 e2 e5 (by rw [e6, HOL.out])
          rw [hput, List.append_nil, ← HGN.out] at this
          exact this
        have HF := hide (HBE.out _ rfl).2.2.2.2.2.2
        have hg0 : 0 < gn := by rw [HGN.out]; exact (change_len l x).1
        have HRUN := hide hrun
        clear hput hoc hrun
        go_wp2_with (at_builtin; refine wpList_append_run rfl _ _ 36 rfl _ _ _ _ rfl rfl HRUN.out ?_)
        go_roundw
        case rel => exact ⟨x + gn, o, by rw [HOL.out], by go_num, HE.out, HF.out⟩
        case measure => simp [intOf]; omega
      · cases hv
        obtain ⟨W4, hW4⟩ : ∃ W4, W4 = W3.setCell ⟨W, x, none⟩ (.int .i64 (ol : Nat)) := ⟨_, rfl⟩
        obtain ⟨e1, e2, e3, e4, e5, e6, e7⟩ := HBE.out W4 hW4
        have kk : ∀ off, W4.cell? ⟨b, off, none⟩ = w2.cell? ⟨b, off, none⟩ := fun off => by
          rw [hW4, set_other (fun e => absurd e hbW)]
          exact cell_eq (HB23.out.block b hbl) off
        have hgn1 := (change_len l x).2.2
        have hrun := run_room (w := W4) (g := g) (n := ol) (cap := cap) (b := b) (off := off) (cp := c) (c := c') e1 (by have := HOL.out; omega) ((kk _).trans k0) ((kk _).trans k1) ((kk _).trans k2)
        have hol3 : o.length * 3 + (inC c').length ≤ (x + gn) * 3 := by
          have h0 : 0 < gn := by rw [HGN.out]; exact (change_len l x).1
          show o.length * 3 + 3 ≤ (x + gn) * 3
          omega
        have HE : Hid (OvAt g cap W n0 B l (x + gn) (o ++ [c']) (W4.setCells g (ol * 3) (inC c'))) := by
          have hl64 := put_i64 (code_is64 hC.out.code) HXL.out (d := c') (by rw [hput]; exact List.mem_singleton.2 rfl)
          have h1 := code_push (c := c') e3 e1 (by omega) hgB hl64
          have h2 : CodeIn B (W4.setCells g (o.length * 3) (inC c')) (l.drop (x + (change l x).1)) (some ⟨g, (x + (change l x).1) * 3, none⟩) := code_behind (drop_code e4) (by rw [← HGN.out]; exact hol3)
          have h3 : ∀ y, (W4.setCells g (o.length * 3) (inC c')).cell? ⟨W, y, none⟩ = W4.cell? ⟨W, y, none⟩ := fun y => cell_eq (heap_sets g (fun e => ha.out.gw e.symm) _ _ _) y
          have := HO3.out.next (w' := W4.setCells g (o.length * 3) (inC c')) HXL.out (by omega) (by rw [hput]; exact h1) h2 (blk_sets _ _ e1) (blk_sets _ _ e2) (fun y hy => (h3 y).trans (e5 y hy)) (by rw [h3, e6, HOL.out])
          rw [hput, ← HGN.out] at this
          rw [HOL.out]
          exact this
        have HF : Hid (Pch (fun k => k = g ∨ k = W) w1 (W4.setCells g (ol * 3) (inC c'))) := e7.sets g (.inl rfl) _ _
        have hg0 : 0 < gn := by rw [HGN.out]; exact (change_len l x).1
        have HRUN := hide hrun
        have HW4 := hide hW4.symm
        have HL2 : Hid (ol + 1 = (o ++ [c']).length) := by unfold Hid; rw [HOL.out, List.length_append]; rfl
        have a1' : W4.cell? ⟨w2.heap.size, 1, none⟩ = some (.slice (some ⟨b, off, none⟩) 1 c) := by
          rw [hW4, set_other (fun e => absurd e hw2W)]
          exact a1
        have a0' : W4.cell? ⟨w2.heap.size, 0, none⟩ = some (.int .i64 gn) := by
          rw [hW4, set_other (fun e => absurd e hw2W)]
          exact a0
        have a0'' : (W4.setCells g (ol * 3) (inC c')).cell? ⟨w2.heap.size, 0, none⟩ = some (.int .i64 gn) := (cell_eq (heap_sets g hw2g _ _ _) 0).trans a0'
        obtain ⟨W5, hW5⟩ : ∃ W5, W5 = W4.setCells g (ol * 3) (inC c') := ⟨_, rfl⟩
        rw [← hW5] at HE HF HRUN a0''
        clear hput hoc hrun e1 e2 e3 e4 e5 e6 e7 kk hgn1 hol3 hW4 hW5 k0 k1 k2
        go_upto_region 7 with fail
        rw [HW4.out]
        clear HW4 a0 a1
        go_wp2_with (at_builtin; refine wpList_append_run rfl _ _ 36 rfl _ _ _ _ rfl rfl HRUN.out ?_)
        go_roundw
        case rel => exact ⟨x + gn, o ++ [c'], by rw [HL2.out], by go_num, HE.out, HF.out⟩
        case measure => simp [intOf]; omega
    · obtain rfl : x = n := by omega
      have hxl : x = l.length := HN.out
      have hlo : o.length = (out (all l)).length := by rw [HO.out.len, hxl, now_end]
      have hoo : o = out (all l) := by
        have := HO.out.pre
        rw [hlo, List.take_length] at this
        exact this
      obtain ⟨ol, hol⟩ : ∃ ol, ol = o.length := ⟨_, rfl⟩
      rw [← hol]
      obtain ⟨W6, hW6⟩ : ∃ W6, W6 = wr.setCell ⟨P, 0, none⟩ (.slice (some ⟨g, 0, none⟩) ol cap) := ⟨_, rfl⟩
      have hP6 : W6.heap[P]? = some (psO g ol cap R M W n0) := by
        rw [hW6]
        have := HPR.out.ps
        simp only [World.setCell, Array.getElem?_modify, if_true, this, Option.map_some]
        rfl
      have hk6 : ∀ k, k ≠ P → W6.heap[k]? = wr.heap[k]? := fun k hk => by rw [hW6]; exact Below.heap_setCell _ ⟨P, 0, none⟩ _ _ hk
      have hz6 : W6.heap.size = wr.heap.size := by rw [hW6]; simp
      have hC6 : CodeIn B W6 o (some ⟨g, 0, none⟩) := code_keep HO.out.left (hk6 g (fun e => ha.out.pg e.symm))
      have hb6 : Blk W6 g 41 (cap * 3) := HO.out.blk.keep (hk6 g (fun e => ha.out.pg e.symm))
      have hj6 : ∀ c ∈ o, jmp c = true → 0 ≤ c.a ∧ c.a < n0 ∧ now (all l) c.a.toNat ≤ 4000 ∧ W6.cell? ⟨W, c.a.toNat, none⟩ = some (.int .i64 (now (all l) c.a.toNat : Nat)) := fun c hc hjc => by
        rw [hoo] at hc
        obtain ⟨h1, h2⟩ := out_jump hj.out hc hjc
        have h3 := begins_lt h2
        have h4 := now_lt h2
        rw [← hlo] at h4
        refine ⟨h1, by omega, by omega, ?_⟩
        rw [cell_eq (hk6 W (fun e => ha.out.pw e.symm))]
        exact HO.out.nows _ (by omega) h2
      have hmv := move_any P g cap R M W n0 B (all l) o W6 (hide (by rw [← hol]; exact hP6)) ha.out.pg (fun e => ha.out.gw e.symm) (hide hb6) (by omega) (hide hC6) (by omega) (hide hj6)
      have hov : o.map (moved (all l)) = over l := by rw [hoo]; rfl
      have hlv : (over l).length = ol := by rw [over_len, ← hlo, hol]
      rw [hov] at hmv
      have HMV := hide hmv
      have HW6 := hide hW6.symm
      have HP6 := hide hP6
      have HK6 := hide hk6
      have HZ6 := hide hz6
      have HLV := hide hlv
      have HOL := hide hol
      have pf : wr.frozen? ⟨P, 0, none⟩ = false := by simp [World.frozen?, HPR.out.ps]
      clear hmv hov hj6 hb6 hC6 hz6 hk6 hP6 hW6 hoo hlo hlv hol hlt hxl
      go_wp2_with fail
      rw [HW6.out]
      refine HMV.out.mono ?_
      rintro e w7 ⟨rfl, hc7, hb7, hg7⟩
      have HPE : Hid (PsIn lo hi w0 P g (over l).length cap R M W n0 fs (aimed l) w7) := by
        unfold Hid
        rw [HLV.out]
        refine ⟨(hg7.block P (lt_of_block HP6.out) (by intro e; cases e; exact ha.out.pg rfl)).trans HP6.out, HPR.out.rls, fun j h1 h2 => ?_, ?_, ?_⟩
        · have h3 : j < W6.heap.size := by rw [HZ6.out]; exact Nat.lt_of_lt_of_le h2 HPR.out.his
          have h4 := ha.out.oG
          have h5 := ha.out.oP
          rw [hg7.block j h3 (by intro e; cases e; omega), HK6.out j (by omega)]
          exact HPR.out.held j h1 h2
        · have h3 : M < W6.heap.size := by rw [HZ6.out]; exact HPR.out.aims.lt
          exact HPR.out.aims.keep ((hg7.block M h3 (by intro e; cases e; exact ha.out.gm rfl)).trans (HK6.out M (fun e => ha.out.pm e.symm)))
        · have h3 := HPR.out.his
          have h4 := hg7.size
          rw [HZ6.out] at h4
          omega
      have HCE : Hid (CdIn g cap W n0 B (over l) w7) := by
        have h3 : W < W6.heap.size := by rw [HZ6.out]; exact HO.out.nowb.lt
        exact ⟨hc7, hb7, HO.out.nowb.keep ((hg7.block W h3 (by intro e; cases e; exact ha.out.gw rfl)).trans (HK6.out W (fun e => ha.out.pw e.symm)))⟩
      have HWE : Hid (Pch (Sg P g M W) w w7) := by
        have h1 : Pch (Sg P g M W) w1 wr := HCH.out.mono (fun k h => by rcases h with rfl | rfl; exact .inr (.inl rfl); exact .inr (.inr (.inr rfl)))
        have h2 : Pch (Sg P g M W) wr W6 := by rw [← HW6.out]; exact (Pch.refl _ wr).set _ (.inl rfl) _
        exact ((HW1.out.trans h1).trans h2).trans (.gm hg7 (.inr (.inl rfl)))
      have HRE : Hid (decide ((over l).length < l.length) = decide (ol < x)) := by
        unfold Hid
        rw [HLV.out, ← HN.out]
      clear hc7 hb7 hg7
      go_wp2
      go_ret
      exact ⟨by rw [HRE.out]; rfl, HPE.out, HCE.out, HWE.out⟩
end Go.Proofs.Ytlbihbfgglnfnaa.Ow

/- Modules in memory, out of what an argument reads as. -/
namespace Go.Proofs.Ytlbihbfgglnfnaa
open Go.RowKit

section
variable {H : Type} {enc : TypeId × Value → H} {w : World} {base : Nat} {spare : Nat → Bool} {held : Bool}

/-- Cells of an element, at an address of the form that the walks read. -/
theorem cells_at {a : Addr} {i n : Nat} {cs : List Value} (hn : 0 < n) (h : w.cells? base (a.add (i * n)) n = some cs) (h0 : a.spot = none) :
    a.block < w.heap.size ∧ ∀ j, j < n → w.cell? ⟨a.block, a.off + i * n + j, none⟩ = cs[j]? := by
  obtain ⟨hb, hl, hc⟩ := World.cells?_some h
  have hadd : ∀ k, a.add k = ⟨a.block, a.off + k, none⟩ := by
    intro k
    unfold Addr.add
    split
    · subst_vars; cases a; simp_all
    · rfl
  have hcell : ∀ j, j < n → w.cell? ⟨a.block, a.off + i * n + j, none⟩ = cs[j]? := by
    intro j hj
    have := hc j hj
    rw [hadd] at this
    rw [← this]
    congr 1
    unfold Addr.add
    split
    · subst_vars; rfl
    · rfl
  refine ⟨?_, hcell⟩
  have h1 := hcell 0 hn
  rw [List.getElem?_eq_getElem (by omega)] at h1
  cases hh : w.heap[a.block]? with
  | none => simp [World.cell?, hh] at h1
  | some o => exact lt_of_block hh

theorem spot_of {a : Addr} {n : Nat} {cs : List Value} (hn : 0 < n) (h : w.cells? base (a.add (0 * n)) n = some cs) : a.spot = none := by
  obtain ⟨hb, hl, hc⟩ := World.cells?_some h
  have h1 := hc 0 hn
  rw [List.getElem?_eq_getElem (by omega)] at h1
  simp only [Nat.zero_mul, Addr.add, if_true] at h1
  unfold World.cell? at h1
  split at h1
  · split at h1
    · simp at h1
    · rename_i hs; simpa using hs
  · simp at h1

theorem list_of {α : Type} {p : Nat → α → Prop} : ∀ (n : Nat), (∀ i, i < n → ∃ y, p i y) → ∃ l : List α, l.length = n ∧ ∀ i y, l[i]? = some y → p i y
  | 0, _ => ⟨[], rfl, fun i y hy => by simp at hy⟩
  | m + 1, hall => by
    obtain ⟨l, h1, h2⟩ := list_of m (fun i hi => hall i (by omega))
    obtain ⟨y, h3⟩ := hall m (by omega)
    refine ⟨l ++ [y], by simp [h1], fun i z hz => ?_⟩
    by_cases hi : i < l.length
    · rw [List.getElem?_append_left hi] at hz; exact h2 i z hz
    · rw [List.getElem?_append_right (by omega)] at hz
      have hi2 : i - l.length = 0 := by
        have := (List.getElem?_eq_some_iff.1 hz).1
        simp at this; omega
      rw [hi2] at hz
      simp at hz
      subst hz
      obtain rfl : i = m := by omega
      exact h3

/-- A slice of whatever lies in n cells each: as a list of what Q says of them. -/
theorem slice_list {α : Type} {t e : TypeId} {n fuel : Nat} {cs : List Value} {x : DataW H × List MemPlace} (Q : Nat → List Value → α → Prop)
    (ht : Try.prog.underlying t = some (.slice e)) (hce : Try.prog.cellsOf e = n) (hn : 0 < n)
    (hQ : ∀ f cs' x', f < fuel → DataW.trod enc Try.prog w base spare held f e cs' = some x' → ∃ y, Q f cs' y)
    (h : DataW.trod enc Try.prog w base spare held fuel t cs = some x) :
    ∃ (l : List α) (a : Option Addr) (c : Nat), cs = [.slice a l.length c] ∧ l.length ≤ maxLen ∧ l.length ≤ c ∧
      ∀ i y, l[i]? = some y → ∃ b off cs' f, a = some ⟨b, off, none⟩ ∧ b < w.heap.size ∧ f < fuel ∧ cs'.length = n ∧ Q f cs' y ∧ ∀ j, j < n → w.cell? ⟨b, off + i * n + j, none⟩ = cs'[j]? := by
  rcases DataW.trod_slice ht h with ⟨rfl, _⟩ | ⟨a, len, cap, elems, rest, k, rfl, rfl, _, hb, hl, hm, hlen, hel, _, _⟩
  · exact ⟨[], none, 0, rfl, Nat.zero_le _, Nat.zero_le _, fun i y hy => by simp at hy⟩
  · rw [hce] at hel
    have hall : ∀ i, i < len → ∃ cs' y, w.cells? base (a.add (i * n)) n = some cs' ∧ Q k cs' y := by
      intro i hi
      have := hel i hi
      rw [List.getElem?_eq_getElem (by omega)] at this
      obtain ⟨cs', h1, h2⟩ := Option.bind_eq_some_iff.1 this
      obtain ⟨y, hy⟩ := hQ k cs' _ (by omega) h2
      exact ⟨cs', y, h1, hy⟩
    obtain ⟨l, hll, hlq⟩ := list_of (p := fun i y => ∃ cs', w.cells? base (a.add (i * n)) n = some cs' ∧ Q k cs' y) len (fun i hi => by
      obtain ⟨cs', y, h1, h2⟩ := hall i hi
      exact ⟨y, cs', h1, h2⟩)
    refine ⟨l, some a, cap, by rw [hll], by omega, by omega, fun i y hy => ?_⟩
    have hi := (List.getElem?_eq_some_iff.1 hy).1
    have hsp : a.spot = none := by
      obtain ⟨cs0, y0, h1, _⟩ := hall 0 (by omega)
      exact spot_of hn h1
    obtain ⟨cs', h1, h2⟩ := hlq i y hy
    obtain ⟨h3, h4⟩ := cells_at hn h1 hsp
    exact ⟨a.block, a.off, cs', k, by cases a; simp_all, h3, by omega, (World.cells?_some h1).2.1, h2, h4⟩

theorem two {cs : List Value} (h : cs.length = 2) : ∃ a b, cs = [a, b] := by
  match cs, h with
  | [a, b], _ => exact ⟨a, b, rfl⟩

theorem three {cs : List Value} (h : cs.length = 3) : ∃ a b c, cs = [a, b, c] := by
  match cs, h with
  | [a, b, c], _ => exact ⟨a, b, c, rfl⟩

/-- A field's reading, if the struct reads. -/
theorem field_some {fs : Array Field} {n : Nat} {cs : List Value} {xs : List (DataW H × List MemPlace)} (hl : xs.length = fs.size)
    (h : ∀ (i : Nat) (f : Field), fs[i]? = some f → DataW.trod enc Try.prog w base spare held n f.type ((cs.drop f.offset).take (Try.prog.cellsOf f.type)) = xs[i]?)
    (i : Nat) (f : Field) (hf : fs[i]? = some f) : ∃ x, DataW.trod enc Try.prog w base spare held n f.type ((cs.drop f.offset).take (Try.prog.cellsOf f.type)) = some x := by
  have hi : i < fs.size := (Array.getElem?_eq_some_iff.1 hf).1
  exact ⟨xs[i]'(by omega), by rw [h i f hf, List.getElem?_eq_getElem]⟩

theorem six {cs : List Value} (h : cs.length = 6) : ∃ a b c d e f, cs = [a, b, c, d, e, f] := by
  match cs, h with
  | [a, b, c, d, e, f], _ => exact ⟨a, b, c, d, e, f, rfl⟩

theorem cells_box : Try.prog.cellsOf 44 = 2 := by kernel_rfl
theorem cells_ins : Try.prog.cellsOf 41 = 3 := by kernel_rfl
theorem cells_un : Try.prog.cellsOf 38 = 6 := by kernel_rfl
theorem cells_md : Try.prog.cellsOf 25 = 2 := by kernel_rfl
theorem cells_int : Try.prog.cellsOf 3 = 1 := by kernel_rfl
theorem cells_i64 : Try.prog.cellsOf 2 = 1 := by kernel_rfl
theorem cells_ints : Try.prog.cellsOf 35 = 1 := by kernel_rfl
theorem cells_code : Try.prog.cellsOf 36 = 1 := by kernel_rfl
theorem cells_boxes : Try.prog.cellsOf 22 = 1 := by kernel_rfl
theorem cells_units : Try.prog.cellsOf 23 = 1 := by kernel_rfl

theorem wf_i64 {n : Int} (h : (Lit.int .i64 n).wf = true) : I64 n := by
  simp only [Lit.wf, Bool.and_eq_true, decide_eq_true_eq] at h
  have e1 : IntKind.i64.min = -9223372036854775808 := by decide
  have e2 : IntKind.i64.max = 9223372036854775807 := by decide
  rw [e1, e2] at h
  exact h

theorem int_open {fuel : Nat} {cs : List Value} {x : DataW H × List MemPlace} (h : DataW.trod enc Try.prog w base spare held fuel 3 cs = some x) : ∃ n : Int, I64 n ∧ cs = [.int .i64 n] := by
  obtain ⟨n, hn, _, hw⟩ := DataW.trod_int Try.underlying3 h
  exact ⟨n, wf_i64 hw, hn⟩
theorem i64_open {fuel : Nat} {cs : List Value} {x : DataW H × List MemPlace} (h : DataW.trod enc Try.prog w base spare held fuel 2 cs = some x) : ∃ n : Int, I64 n ∧ cs = [.int .i64 n] := by
  obtain ⟨n, hn, _, hw⟩ := DataW.trod_int Try.underlying2 h
  exact ⟨n, wf_i64 hw, hn⟩

theorem ints_open {fuel : Nat} {cs : List Value} {x : DataW H × List MemPlace} (h : DataW.trod enc Try.prog w base spare held fuel 35 cs = some x) :
    ∃ (l : List Int) (a : Option Addr) (c : Nat), cs = [.slice a l.length c] ∧ IntsIn w.heap.size w l a ∧ l.length ≤ 9223372036854775807 ∧ l.length ≤ c := by
  obtain ⟨l, a, c, hcs, hm, hc, hall⟩ := slice_list (n := 1) (fun _ cs' (y : Int) => I64 y ∧ cs' = [.int .i64 y]) Try.underlying35 cells_int (by decide) (fun f cs' x' _ hx' => int_open hx') h
  refine ⟨l, a, c, hcs, fun i y hy => ?_, by unfold maxLen at hm; omega, hc⟩
  obtain ⟨b, off, cs', f, he, hb, _, _, ⟨h1, rfl⟩, hcell⟩ := hall i y hy
  exact ⟨h1, b, off, he, hb, by have := hcell 0 (by decide); rw [Nat.mul_one] at this; exact this⟩

theorem box_open {fuel : Nat} {cs : List Value} {x : DataW H × List MemPlace} (h : DataW.trod enc Try.prog w base spare held fuel 44 cs = some x) :
    ∃ o : Vf.Bx, (I64 o.ty ∧ I64 o.cap) ∧ cs = [.int .i64 o.ty, .int .i64 o.cap] := by
  obtain ⟨xs, n, rfl, _, hl, hxl, hf⟩ := DataW.trod_struct Try.underlying44 h
  rw [cells_box] at hl
  obtain ⟨a, b, rfl⟩ := two hl
  obtain ⟨x0, h0⟩ : ∃ x, DataW.trod enc Try.prog w base spare held n 3 (([a, b].drop 0).take (Try.prog.cellsOf 3)) = some x := field_some hxl hf 0 _ rfl
  obtain ⟨x1, h1⟩ : ∃ x, DataW.trod enc Try.prog w base spare held n 3 (([a, b].drop 1).take (Try.prog.cellsOf 3)) = some x := field_some hxl hf 1 _ rfl
  simp only [cells_int] at h0 h1
  obtain ⟨p, p1, p2⟩ := int_open h0
  obtain ⟨q, q1, q2⟩ := int_open h1
  simp at p2 q2
  exact ⟨⟨p, q⟩, ⟨p1, q1⟩, by rw [p2, q2]⟩
theorem ins_open {fuel : Nat} {cs : List Value} {x : DataW H × List MemPlace} (h : DataW.trod enc Try.prog w base spare held fuel 41 cs = some x) :
    ∃ o : Vf.Ins, (I64 o.op ∧ I64 o.a ∧ I64 o.n) ∧ cs = [.int .i64 o.op, .int .i64 o.a, .int .i64 o.n] := by
  obtain ⟨xs, n, rfl, _, hl, hxl, hf⟩ := DataW.trod_struct Try.underlying41 h
  rw [cells_ins] at hl
  obtain ⟨a, b, c, rfl⟩ := three hl
  obtain ⟨x0, h0⟩ : ∃ x, DataW.trod enc Try.prog w base spare held n 3 (([a, b, c].drop 0).take (Try.prog.cellsOf 3)) = some x := field_some hxl hf 0 _ rfl
  obtain ⟨x1, h1⟩ : ∃ x, DataW.trod enc Try.prog w base spare held n 3 (([a, b, c].drop 1).take (Try.prog.cellsOf 3)) = some x := field_some hxl hf 1 _ rfl
  obtain ⟨x2, h2⟩ : ∃ x, DataW.trod enc Try.prog w base spare held n 2 (([a, b, c].drop 2).take (Try.prog.cellsOf 2)) = some x := field_some hxl hf 2 _ rfl
  simp only [cells_int, cells_i64] at h0 h1 h2
  obtain ⟨p, p1, p2⟩ := int_open h0
  obtain ⟨q, q1, q2⟩ := int_open h1
  obtain ⟨r, r1, r2⟩ := i64_open h2
  simp at p2 q2 r2
  exact ⟨⟨p, q, r⟩, ⟨p1, q1, r1⟩, by rw [p2, q2, r2]⟩
theorem code_open {fuel : Nat} {cs : List Value} {x : DataW H × List MemPlace} (h : DataW.trod enc Try.prog w base spare held fuel 36 cs = some x) :
    ∃ (l : List Vf.Ins) (a : Option Addr) (c : Nat), cs = [.slice a l.length c] ∧ CodeIn w.heap.size w l a ∧ l.length ≤ 9223372036854775807 ∧ l.length ≤ c := by
  obtain ⟨l, a, c, hcs, hm, hc, hall⟩ := slice_list (n := 3) (fun _ cs' (y : Vf.Ins) => (I64 y.op ∧ I64 y.a ∧ I64 y.n) ∧ cs' = [.int .i64 y.op, .int .i64 y.a, .int .i64 y.n]) Try.underlying36 cells_ins (by decide) (fun f cs' x' _ hx' => ins_open hx') h
  refine ⟨l, a, c, hcs, fun i y hy => ?_, by unfold maxLen at hm; omega, hc⟩
  obtain ⟨b, off, cs', f, he, hb, _, _, ⟨⟨h1, h2, h3⟩, rfl⟩, hcell⟩ := hall i y hy
  exact ⟨h1, h2, h3, b, off, he, hb, hcell 0 (by decide), hcell 1 (by decide), hcell 2 (by decide)⟩
theorem unit_open {fuel : Nat} {cs : List Value} {x : DataW H × List MemPlace} (h : DataW.trod enc Try.prog w base spare held fuel 38 cs = some x) :
    ∃ u : Vf.Un, ∃ al cl ac cc, UnIn w.heap.size w u al ac cl cc ∧ cs = [.int .i64 u.kind, .int .i64 u.params, .slice al u.locals.length cl, .int .i64 u.result, .int .i64 u.takes, .slice ac u.code.length cc] := by
  obtain ⟨xs, n, rfl, _, hl, hxl, hf⟩ := DataW.trod_struct Try.underlying38 h
  rw [cells_un] at hl
  obtain ⟨a, b, c, d, e, f, rfl⟩ := six hl
  obtain ⟨x0, h0⟩ : ∃ x, DataW.trod enc Try.prog w base spare held n 3 (([a, b, c, d, e, f].drop 0).take (Try.prog.cellsOf 3)) = some x := field_some hxl hf 0 _ rfl
  obtain ⟨x1, h1⟩ : ∃ x, DataW.trod enc Try.prog w base spare held n 3 (([a, b, c, d, e, f].drop 1).take (Try.prog.cellsOf 3)) = some x := field_some hxl hf 1 _ rfl
  obtain ⟨x2, h2⟩ : ∃ x, DataW.trod enc Try.prog w base spare held n 35 (([a, b, c, d, e, f].drop 2).take (Try.prog.cellsOf 35)) = some x := field_some hxl hf 2 _ rfl
  obtain ⟨x3, h3⟩ : ∃ x, DataW.trod enc Try.prog w base spare held n 3 (([a, b, c, d, e, f].drop 3).take (Try.prog.cellsOf 3)) = some x := field_some hxl hf 3 _ rfl
  obtain ⟨x4, h4⟩ : ∃ x, DataW.trod enc Try.prog w base spare held n 3 (([a, b, c, d, e, f].drop 4).take (Try.prog.cellsOf 3)) = some x := field_some hxl hf 4 _ rfl
  obtain ⟨x5, h5⟩ : ∃ x, DataW.trod enc Try.prog w base spare held n 36 (([a, b, c, d, e, f].drop 5).take (Try.prog.cellsOf 36)) = some x := field_some hxl hf 5 _ rfl
  simp only [cells_int, cells_ints, cells_code] at h0 h1 h2 h3 h4 h5
  obtain ⟨p0, i0, e0⟩ := int_open h0
  obtain ⟨p1, i1, e1⟩ := int_open h1
  obtain ⟨p2, a2, c2, e2, i2, l2, k2⟩ := ints_open h2
  obtain ⟨p3, i3, e3⟩ := int_open h3
  obtain ⟨p4, i4, e4⟩ := int_open h4
  obtain ⟨p5, a5, c5, e5, i5, l5, k5⟩ := code_open h5
  simp at e0 e1 e2 e3 e4 e5
  exact ⟨⟨p0, p1, p2, p3, p4, p5⟩, a2, c2, a5, c5, ⟨⟨i0, i1, i3, i4⟩, ⟨l2, l5⟩, ⟨k2, k5⟩, i2, i5⟩, by rw [e0, e1, e2, e3, e4, e5]⟩

/-- WHAT AN ARGUMENT Module IS. -/
theorem mod_open {fuel : Nat} {cs : List Value} {x : DataW H × List MemPlace} (h : DataW.trod enc Try.prog w base spare held fuel 25 cs = some x) :
    ∃ m : Vf.Md, ∃ ab cb au cu, cs = [.slice ab m.boxes.length cb, .slice au m.units.length cu] ∧ ModIn w.heap.size w m ab au := by
  obtain ⟨xs, n, rfl, _, hl, hxl, hf⟩ := DataW.trod_struct Try.underlying25 h
  rw [cells_md] at hl
  obtain ⟨p, q, rfl⟩ := two hl
  obtain ⟨x0, h0⟩ : ∃ x, DataW.trod enc Try.prog w base spare held n 22 (([p, q].drop 0).take (Try.prog.cellsOf 22)) = some x := field_some hxl hf 0 _ rfl
  obtain ⟨x1, h1⟩ : ∃ x, DataW.trod enc Try.prog w base spare held n 23 (([p, q].drop 1).take (Try.prog.cellsOf 23)) = some x := field_some hxl hf 1 _ rfl
  simp only [cells_boxes, cells_units] at h0 h1
  obtain ⟨l, a, c, hcs, hm, _, hall⟩ := slice_list (n := 2) (fun _ cs' (y : Vf.Bx) => (I64 y.ty ∧ I64 y.cap) ∧ cs' = [.int .i64 y.ty, .int .i64 y.cap]) Try.underlying22 cells_box (by decide) (fun f cs' x' _ hx' => box_open hx') h0
  obtain ⟨l2, a2, c2, hcs2, hm2, _, hall2⟩ := slice_list (n := 6) (fun _ cs' (u : Vf.Un) => ∃ al cl ac cc, UnIn w.heap.size w u al ac cl cc ∧ cs' = [.int .i64 u.kind, .int .i64 u.params, .slice al u.locals.length cl, .int .i64 u.result, .int .i64 u.takes, .slice ac u.code.length cc]) Try.underlying23 cells_un (by decide) (fun f cs' x' _ hx' => unit_open hx') h1
  simp at hcs hcs2
  refine ⟨⟨l, l2⟩, a, c, a2, c2, by rw [hcs, hcs2], ⟨by unfold maxLen at hm; omega, by unfold maxLen at hm2; omega⟩, fun i y hy => ?_, fun i y hy => ?_⟩
  · obtain ⟨b, off, cs', f, he, hb, _, _, ⟨⟨h1, h2⟩, rfl⟩, hcell⟩ := hall i y hy
    exact ⟨h1, h2, b, off, he, hb, hcell 0 (by decide), hcell 1 (by decide)⟩
  · obtain ⟨b, off, cs', f, he, hb, _, _, ⟨al, cl, ac, cc, hu, rfl⟩, hcell⟩ := hall2 i y hy
    exact ⟨b, off, al, cl, ac, cc, he, hb, hu, hcell 0 (by decide), hcell 1 (by decide), hcell 2 (by decide), hcell 3 (by decide), hcell 4 (by decide), hcell 5 (by decide)⟩

end
end Go.Proofs.Ytlbihbfgglnfnaa

