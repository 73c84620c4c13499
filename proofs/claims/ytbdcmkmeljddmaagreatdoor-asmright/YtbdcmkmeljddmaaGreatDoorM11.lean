/- The places of an instruction's number: the walk of placesOf. -/
import Derived.Test.YtbdcmkmeljddmaaGreatDoorM10
namespace Go.Proofs.YtbdcmkmeljddmaaGreatDoor.Aw
open Go.RowKit As

theorem enter_n (args : Array Value) (w : World) : Sem.run Tryz.prog (callFunc 79 args) w = .ok (.enter 79 args) w := by kernel_rfl
set_option maxHeartbeats 400000 in
theorem placeN_any (N Q : Nat) (n : Int) (v : Value) (w : World) (hQ : w.cell? ⟨Q, 0, none⟩ = some (ptI N 0)) (ha : w.cell? ⟨N, 2, none⟩ = some v) (hf : w.frozen? ⟨N, 2, none⟩ = false) :
    Calls Tryz.prog 79 #[.int .i64 n, ptI Q 0] w fun e w' => e = .returned (.tuple #[]) ∧ w' = w.setCell ⟨N, 2, none⟩ (.int .i64 n) := by
  go_enter Tryz.func79, Tryz.ntmps79
  go_wp2
  go_end0
  exact ⟨rfl, rfl⟩

/-- What placesOf answers. -/
def fsI (k : Int) (Q : Nat) : List (Nat × Array Value) := if k = 1 then [(79, #[ptI Q 0])] else if k = 2 then [(80, #[ptI Q 0])] else []
structure PlI (k : Int) (N Q : Nat) (a : Option Addr) (w : World) : Prop where
  one : k = 1 → w.heap[Q]? = some (.cells #[ptI N 0] 110 (0, 0))
  two : k = 2 → w.heap[Q]? = some (.cells #[ptI N 1] 114 (0, 0))
  row : ∀ p, p ∈ fsI k Q → ∃ g, a = some ⟨g, 0, none⟩ ∧ w.heap[g]? = some (.cells #[funV p] 112 (0, 0))
theorem PlI.new {k : Int} {N Q : Nat} {a : Option Addr} {w w' : World} (h : PlI k N Q a w) (hb : Below w.heap.size w w') : PlI k N Q a w' :=
  ⟨fun e => (hb.block _ (lt_of_block (h.one e))).trans (h.one e), fun e => (hb.block _ (lt_of_block (h.two e))).trans (h.two e), fun p hp => by
    obtain ⟨g, e, hg⟩ := h.row p hp
    exact ⟨g, e, (hb.block _ (lt_of_block hg)).trans hg⟩⟩
theorem two_old (w : World) (o p : Obj) : ((w.alloc o).alloc p).heap[w.heap.size]? = some o := (Below.heap_alloc _ _ _ (by simp)).trans (heap_alloc_new _ _)

set_option maxHeartbeats 1000000 in
theorem placesOf_any (N : Nat) (op : Int) (w : World) (hN : Hid (w.cell? ⟨N, 0, none⟩ = some (.int .i64 op))) (hNl : Hid (N < w.heap.size)) (k : Int) (hk : Hid (k = nOf op)) :
    Calls Tryz.prog 52 #[ptI N 0] w fun e w' => ∃ Q a, e = .returned (.slice a (fsI k Q).length (fsI k Q).length) ∧ PlI k N Q a w' ∧ Below w.heap.size w w' := by
  obtain ⟨V, hV⟩ : ∃ V, V = w.alloc (.cells #[ptI N 0] 110) := ⟨_, rfl⟩
  have HBV : Hid (Below w.heap.size w V) := by rw [hV]; exact (Below.refl _ _).alloc (Nat.le_refl _) _
  have HV : Hid (V.heap[w.heap.size]? = some (.cells #[ptI N 0] 110 (0, 0))) := by rw [hV]; exact heap_alloc_new _ _
  have cN : V.cell? ⟨N, 0, none⟩ = some (.int .i64 op) := (HBV.out.cell (p := ⟨N, 0, none⟩) hNl.out).trans hN.out
  have cV := blk1_cell HV.out
  have hV' : w.alloc (.cells #[ptI N 0] 110) = V := hV.symm
  clear hV
  go_enter Tryz.func52, Tryz.ntmps52
  go_wp2_with fail
  refine (numberOf_any op _ k hk).mono ?_
  rintro e w1 ⟨rfl, rfl⟩
  clear hV'
  by_cases h1 : k = 1
  · have e1 : (k == 1) = true := by simp [h1]
    subst h1
    have HP : Hid (PlI 1 N w.heap.size (some ⟨w1.heap.size, 0, none⟩) (w1.alloc (.cells #[.func (.func 79) #[] #[ptI w.heap.size 0]] 112))) := by
      refine ⟨fun _ => (Below.heap_alloc _ _ _ (lt_of_block HV.out)).trans HV.out, fun h => by (exact absurd h (by decide)), fun p hp => ⟨_, rfl, ?_⟩⟩
      simp [fsI] at hp
      subst hp
      exact heap_alloc_new _ _
    go_wp2
    go_ret
    exact ⟨w.heap.size, some ⟨w1.heap.size, 0, none⟩, rfl, HP.out, HBV.out.alloc (by have := HBV.out.size; omega) _⟩
  · have e1 : (k == 1) = false := by simp [h1]
    by_cases h2 : k = 2
    · have e2 : (k == 2) = true := by simp [h2]
      subst h2
      clear h1
      go_wp2_with fail
      refine (toInt_any ⟨N, 1, none⟩ _).mono ?_
      rintro e w2 ⟨rfl, rfl⟩
      have HP : Hid (PlI 2 N w1.heap.size (some ⟨w1.heap.size + 1, 0, none⟩) ((w1.alloc (.cells #[ptI N 1] 114)).alloc (.cells #[toF w1.heap.size] 112))) := by
        refine ⟨fun h => by (exact absurd h (by decide)), fun _ => two_old _ _ _, fun p hp => ⟨_, rfl, ?_⟩⟩
        simp [fsI] at hp
        subst hp
        exact two_new _ _ _
      go_wp2
      go_ret
      exact ⟨w1.heap.size, some ⟨w1.heap.size + 1, 0, none⟩, rfl, HP.out, below_on HBV.out (two_below _ _ _)⟩
    · have e2 : (k == 2) = false := by simp [h2]
      have HP : Hid (PlI k N 0 none w1) := ⟨fun h => absurd h h1, fun h => absurd h h2, fun p hp => by unfold fsI at hp; rw [if_neg h1, if_neg h2] at hp; cases hp⟩
      have HF : Hid (fsI k 0 = []) := by unfold Hid fsI; rw [if_neg h1, if_neg h2]
      clear h1 h2
      go_wp2
      go_ret
      exact ⟨0, none, by rw [HF.out]; rfl, HP.out, HBV.out⟩

/-- An instruction with the first j numbers of its line. -/
def insK (op k : Int) (ws : List By) (j : Nat) : Vf.Ins := ⟨op, if k = 2 then fld ws j 0 else 0, if k = 1 then fld ws j 0 else 0⟩
abbrev inO3 (i : Vf.Ins) : Obj := .cells #[.int .i64 i.op, .int .i64 i.a, .int .i64 i.n] 43 (0, 0)
theorem in3_cells {w : World} {N : Nat} {i : Vf.Ins} (h : w.heap[N]? = some (inO3 i)) : w.cell? ⟨N, 0, none⟩ = some (.int .i64 i.op) ∧ w.cell? ⟨N, 1, none⟩ = some (.int .i64 i.a) ∧ w.cell? ⟨N, 2, none⟩ = some (.int .i64 i.n) ∧ w.frozen? ⟨N, 1, none⟩ = false ∧ w.frozen? ⟨N, 2, none⟩ = false := by
  simp [World.cell?, World.frozen?, h]
theorem setI_1 {w : World} {N : Nat} {i : Vf.Ins} (h : w.heap[N]? = some (inO3 i)) (v : Int) : (w.setCell ⟨N, 1, none⟩ (.int .i64 v)).heap[N]? = some (inO3 ⟨i.op, v, i.n⟩) := by
  simp only [World.setCell, Array.getElem?_modify, if_true, h, Option.map_some]
  rfl
theorem setI_2 {w : World} {N : Nat} {i : Vf.Ins} (h : w.heap[N]? = some (inO3 i)) (v : Int) : (w.setCell ⟨N, 2, none⟩ (.int .i64 v)).heap[N]? = some (inO3 ⟨i.op, i.a, v⟩) := by
  simp only [World.setCell, Array.getElem?_modify, if_true, h, Option.map_some]
  rfl
structure InI (B N : Nat) (w : World) (ws : List By) (op k : Int) (Q : Nat) (a : Option Addr) (j : Nat) (W : World) : Prop where
  le : j ≤ 1
  gv : GV B w
  hB : B ≤ w.heap.size
  hN : w.heap.size ≤ N
  below : Below w.heap.size w W
  size : w.heap.size ≤ W.heap.size
  ins : W.heap[N]? = some (inO3 (insK op k ws j))
  pl : PlI k N Q a W
theorem fsI_at {k : Int} {Q i : Nat} {p : Nat × Array Value} (h : (fsI k Q)[i]? = some p) : i = 0 ∧ ((k = 1 ∧ p = (79, #[ptI Q 0])) ∨ (k = 2 ∧ p = (80, #[ptI Q 0]))) := by
  unfold fsI at h
  split at h
  · rename_i h1
    match i, h with
    | 0, h => simp at h; exact ⟨rfl, .inl ⟨h1, h.symm⟩⟩
  · split at h
    · rename_i _ h2
      match i, h with
      | 0, h => simp at h; exact ⟨rfl, .inr ⟨h2, h.symm⟩⟩
    · simp at h
theorem PlI.set {k : Int} {N Q o : Nat} {a : Option Addr} {w : World} {v : Value} {cs : Array Value} {fr : Nat × Nat} (h : PlI k N Q a w) (hN : w.heap[N]? = some (.cells cs 43 fr)) : PlI k N Q a (w.setCell ⟨N, o, none⟩ v) := by
  have hk := kt_set hN o v
  exact ⟨fun e => hk _ _ _ _ (h.one e) (by decide), fun e => hk _ _ _ _ (h.two e) (by decide), fun p hp => by
    obtain ⟨g, e, hg⟩ := h.row p hp
    exact ⟨g, e, hk _ _ _ _ hg (by decide)⟩⟩
theorem in_places (B N Q : Nat) (w : World) (ws : List By) (op k : Int) (aw a : Option Addr) (hs : StrsW w ws aw) : Places B ws (fsI k Q) aw a (InI B N w ws op k Q a) := by
  refine ⟨fun j W h => ⟨h.gv.below h.below h.hB, by have := h.size; have := h.hB; omega⟩, fun j W W' h hb => ?_, fun j W i x h hx => ?_, fun j W i F caps h hf => ?_, fun i F caps hf args W => ?_, fun j F caps x n W hf hx hn h => ?_⟩
  · exact ⟨h.le, h.gv, h.hB, h.hN, below_on h.below hb, Nat.le_trans h.size hb.size, (hb.block _ (lt_of_block h.ins)).trans h.ins, h.pl.new hb⟩
  · obtain ⟨b, off, e, hb, hc⟩ := hs i x hx
    exact ⟨b, off, e, (h.below.cell (p := ⟨b, off + i, none⟩) hb).trans hc⟩
  · obtain ⟨rfl, _⟩ := fsI_at hf
    obtain ⟨g, e, hg⟩ := h.pl.row _ (List.mem_of_getElem? hf)
    exact ⟨g, 0, e, blk1_cell hg⟩
  · obtain ⟨_, ⟨_, e⟩ | ⟨_, e⟩⟩ := fsI_at hf <;> cases e
    · exact enter_n args W
    · exact enter_to args W
  · obtain ⟨rfl, hp⟩ := fsI_at hf
    obtain ⟨c0, c1, c2, g1, g2⟩ := in3_cells h.ins
    rcases hp with ⟨hk, e⟩ | ⟨hk, e⟩ <;> cases e
    · refine (placeN_any N Q n _ W (blk1_cell (h.pl.one hk)) c2 g2).mono ?_
      rintro e W' ⟨rfl, rfl⟩
      refine ⟨rfl, Nat.le_refl _, h.gv, h.hB, h.hN, h.below.setCell (p := ⟨N, 2, none⟩) h.hN _, by simpa [World.setCell] using h.size, ?_, h.pl.set h.ins⟩
      have := setI_2 h.ins n
      subst hk
      have e1 : insK op 1 ws (0 + 1) = ⟨op, 0, n⟩ := by unfold insK; rw [if_neg (by decide), if_pos rfl, fld_at hx hn]
      rw [e1]
      exact this
    · refine (toInt1_any ⟨N, 1, none⟩ Q n _ W (blk1_cell (h.pl.two hk)) c1 g1).mono ?_
      rintro e W' ⟨rfl, rfl⟩
      refine ⟨rfl, Nat.le_refl _, h.gv, h.hB, h.hN, h.below.setCell (p := ⟨N, 1, none⟩) h.hN _, by simpa [World.setCell] using h.size, ?_, h.pl.set h.ins⟩
      have := setI_1 h.ins n
      subst hk
      have e1 : insK op 2 ws (0 + 1) = ⟨op, n, 0⟩ := by unfold insK; rw [if_pos rfl, if_neg (by decide), fld_at hx hn]
      rw [e1]
      exact this

def instrL (m : Vf.Md) (word : By) (ws : List By) : Option Vf.Md := match opOf word, nums ws with
  | some (op, h), some l => ((mkI op h l).bind (addI m.units)).map (fun us => ⟨m.boxes, us⟩)
  | _, _ => none
theorem instrL_word {m : Vf.Md} {word : By} {ws : List By} (h : opOf word = none) : instrL m word ws = none := by unfold instrL; rw [h]
theorem instrL_units {m : Vf.Md} {word : By} {ws : List By} (h : m.units = []) : instrL m word ws = none := by
  unfold instrL
  split
  · rename_i op h' l _ _
    cases mkI op h' l with
    | none => rfl
    | some i => rw [Option.bind_some, h]; rfl
  · rfl
theorem mkI_len {op : Int} {h : Nat} {l : List Int} {i : Vf.Ins} (e : mkI op h l = some i) (k : Int) (Q : Nat) (hk : (h = 2 ∧ k = 1) ∨ (h = 1 ∧ k = 2) ∨ (h = 0 ∧ k = 0)) : l.length = (fsI k Q).length := by
  unfold mkI at e
  split at e
  · rcases hk with ⟨h1, _⟩ | ⟨h1, _⟩ | ⟨_, rfl⟩
    · cases h1
    · cases h1
    · rfl
  · rcases hk with ⟨h1, _⟩ | ⟨_, rfl⟩ | ⟨h1, _⟩
    · cases h1
    · rfl
    · cases h1
  · rcases hk with ⟨_, rfl⟩ | ⟨h1, _⟩ | ⟨h1, _⟩
    · rfl
    · cases h1
    · cases h1
  · cases e
theorem instrL_no {m : Vf.Md} {word : By} {ws : List By} {op : Int} {h : Nat} {k : Int} {Q : Nat} (ho : opOf word = some (op, h)) (hk : (h = 2 ∧ k = 1) ∨ (h = 1 ∧ k = 2) ∨ (h = 0 ∧ k = 0)) (hn : ws.length ≠ (fsI k Q).length ∨ nums ws = none) : instrL m word ws = none := by
  unfold instrL
  rw [ho]
  cases e : nums ws with
  | none => rfl
  | some l =>
    simp only
    cases e2 : mkI op h l with
    | none => rfl
    | some i =>
      exfalso
      rcases hn with hn | hn
      · have := mkI_len e2 k Q hk
        have h1 := (nums_some e).1
        rw [← h1, List.length_map] at hn
        exact hn this
      · rw [hn] at e; cases e
theorem instrL_yes {m : Vf.Md} {word : By} {ws : List By} {ns : List Int} {op : Int} {h : Nat} {k : Int} {Q : Nat} (ho : opOf word = some (op, h)) (hk : (h = 2 ∧ k = 1) ∨ (h = 1 ∧ k = 2) ∨ (h = 0 ∧ k = 0)) (hl : ws.length = (fsI k Q).length) (hn : nums ws = some ns) : instrL m word ws = (addI m.units (insK op k ws ws.length)).map (fun us => ⟨m.boxes, us⟩) := by
  have hg := nums_guess hn
  unfold instrL
  rw [ho, hn]
  simp only
  have e : mkI op h ns = some (insK op k ws ws.length) := by
    subst hg
    rcases hk with ⟨rfl, rfl⟩ | ⟨rfl, rfl⟩ | ⟨rfl, rfl⟩
    · match ws, hl with
      | [x], _ => simp [mkI, insK, fld]
    · match ws, hl with
      | [x], _ => simp [mkI, insK, fld]
    · match ws, hl with
      | [], _ => simp [mkI, insK]
  rw [e]
  rfl

end Go.Proofs.YtbdcmkmeljddmaaGreatDoor.Aw

/- The walk of reader.instr. -/
namespace Go.Proofs.YtbdcmkmeljddmaaGreatDoor.Aw
open Go.RowKit As

theorem add_set {us : List UV} {x : UV} (hx : us[us.length - 1]? = some x) (i : Vf.Ins) (a : Option Addr) (c : Nat) : addI (us.map (·.u)) i = some ((us.set (us.length - 1) ⟨{ x.u with code := x.u.code ++ [i] }, x.al, a, x.cl, c⟩).map (·.u)) := by
  obtain ⟨hl, hx'⟩ := List.getElem?_eq_some_iff.1 hx
  obtain ⟨pre, rfl⟩ : ∃ pre, us = pre ++ [x] := by
    refine ⟨us.take (us.length - 1), ?_⟩
    conv => lhs; rw [← List.take_append_drop (us.length - 1) us, List.drop_eq_getElem_cons hl, hx']
    rw [show us.length - 1 + 1 = us.length by omega, List.drop_length]
  rw [List.map_append]
  have e : (pre ++ [x]).length - 1 = pre.length := by simp
  rw [e, List.set_append_right _ _ (Nat.le_refl _), Nat.sub_self]
  show addI (pre.map (·.u) ++ [x.u]) i = _
  rw [add_last]
  simp


set_option maxHeartbeats 4000000 in
set_option maxRecDepth 100000 in
theorem instr_r (B R U J K : Nat) (hK : Hid (K ≤ 60000)) (word : By) (ws : List By) (aw : Option Addr) (cw : Nat) (hw : Hid (∀ x ∈ ws, x.length ≤ 60000)) (w : World) (hg : Hid (GV B w)) (m : Vf.Md) (h : Hid (RD B R U J K w m)) (hs : Hid (StrsW w ws aw)) (r : Option Vf.Md) (hr : Hid (r = instrL m word ws)) :
    Calls Tryz.prog 32 #[ptI R 0, sv word, .slice aw ws.length cw] w fun e w' => ∃ b, e = .returned (.bool b) ∧ LineR B R U J K w w' b r := by
  obtain ⟨i0, hi, hz0, hz1, hz2⟩ := info_parts infoIns
  obtain ⟨vb, vu, us, C, hx⟩ := h.out
  obtain ⟨ab, cb, rfl⟩ := own_form hx.boxes
  obtain ⟨au, cu, rfl⟩ := own_form hx.units
  have HX0 := hide hx
  obtain ⟨_, _, _, _, c4, c5, _⟩ := rd_cells hx.blk
  clear hx
  obtain ⟨ix, hix⟩ : ∃ ix, ix = idxI word tabW := ⟨_, rfl⟩
  have HIX := hide hix
  clear hix
  go_enter Tryz.func32, Tryz.ntmps32
  go_wp2_with fail
  refine (kind_any J tabW word 1 (by decide) (by decide) w (hide HX0.out.wj) ix HIX).mono ?_
  rintro e wa ⟨rfl, hba⟩
  have HBA := hide hba
  clear hba c4 c5
  obtain ⟨kd, hkd⟩ : ∃ kd, kd = 1 + ix := ⟨_, rfl⟩
  rw [← hkd]
  have HKD := hide hkd
  clear hkd
  generalize hok : decide (0 ≤ ix) = okb
  have HOK := hide hok
  clear hok
  obtain ⟨V, hV⟩ : ∃ V, V = wa.alloc (inO3 ⟨kd, 0, 0⟩) := ⟨_, rfl⟩
  have HBV : Hid (Below w.heap.size w V) := by rw [hV]; exact below_on HBA.out ((Below.refl _ _).alloc (Nat.le_refl _) _)
  have HIN : Hid (V.heap[wa.heap.size]? = some (inO3 ⟨kd, 0, 0⟩)) := by rw [hV]; exact heap_alloc_new _ _
  have HNS : Hid (w.heap.size ≤ wa.heap.size) := HBA.out.size
  have HXV := hide (HX0.out.new HBV.out)
  obtain ⟨_, c1, _⟩ := rd_cells HXV.out.blk
  have HVE : Hid (wa.alloc (.cells #[.int .i64 kd, .int .i64 0, .int .i64 0] 43) = V) := hV.symm
  rw [← HVE.out] at c1
  clear hV
  cases okb with
  | false =>
    have HR : Hid (LineR B R U J K w V false r) := by
      have e1 : r = none := by
        rw [hr.out]
        refine instrL_word ?_
        rcases idx_tab word with ⟨h0, _⟩ | ⟨op, hh, _, h2, h3⟩
        · exact h0
        · have := HOK.out
          rw [HIX.out, h2] at this
          simp at this
          omega
      rw [e1]
      exact ⟨HBV.out.mono HX0.out.lt.1, rfl, fun m' h => by cases h⟩
    rw [← HVE.out] at HR
    clear c1
    go_wp2
    go_ret
    first | exact ⟨false, rfl, HR.out⟩ | exact .inl ⟨rfl, HR.out⟩
  | true =>
    obtain ⟨op, hh, hop, hkd⟩ : ∃ op hh, opOf word = some (op, hh) ∧ kd = op := by
      rcases idx_tab word with ⟨_, h1⟩ | ⟨op, hh, h1, h2, h3⟩
      · have := HOK.out
        rw [HIX.out, h1] at this
        simp at this
      · have := HKD.out
        rw [HIX.out, h2] at this
        exact ⟨op, hh, h1, by omega⟩
    subst hkd
    have HOP := hide hop
    have HKN : Hid ((hh = 2 ∧ nOf kd = 1) ∨ (hh = 1 ∧ nOf kd = 2) ∨ (hh = 0 ∧ nOf kd = 0)) := nOf_word (op_word hop)
    have HK64 : Hid (I64 kd) := by
      have h1 := HKD.out
      have h2 := idx_ge word tabW
      have h3 := idx_lt word tabW
      have h4 : tabW.length = 32 := by decide
      rw [← HIX.out] at h2 h3
      exact ⟨by omega, by omega⟩
    clear hop HKD HOK HIX
    by_cases hu : us.length = 0
    · have HR : Hid (LineR B R U J K w V false r) := by
        have e1 : r = none := by
          rw [hr.out]
          refine instrL_units ?_
          have := HX0.out.same
          rw [List.length_eq_zero_iff.1 hu] at this
          exact this.symm
        rw [e1]
        exact ⟨HBV.out.mono HX0.out.lt.1, rfl, fun m' h => by cases h⟩
      rw [hu] at c1
      rw [← HVE.out] at HR
      go_wp2
      go_ret
      first | exact ⟨false, rfl, HR.out⟩ | exact .inl ⟨rfl, HR.out⟩
    · obtain ⟨n, hn⟩ : ∃ n, us.length = n + 1 := ⟨us.length - 1, by omega⟩
      rw [hn] at c1
      clear hu
      go_wp2_with fail
      rw [HVE.out]
      refine (placesOf_any wa.heap.size kd _ (hide (in3_cells HIN.out).1) (hide (lt_of_block HIN.out)) (nOf kd) (hide rfl)).mono ?_
      rintro e W0 ⟨Q, a, rfl, hPl, hb0⟩
      clear c1
      have HI0 : Hid (InI B wa.heap.size w ws kd (nOf kd) Q a 0 W0) := ⟨by omega, hg.out, HX0.out.lt.1, HNS.out, below_on HBV.out hb0, Nat.le_trans HBV.out.size hb0.size, by
        have : insK kd (nOf kd) ws 0 = ⟨kd, 0, 0⟩ := by simp [insK, fld]
        rw [this]
        exact (hb0.block _ (lt_of_block HIN.out)).trans HIN.out, hPl⟩
      have hcall := fill_any B ws (fsI (nOf kd) Q) aw a cw (fsI (nOf kd) Q).length (InI B wa.heap.size w ws kd (nOf kd) Q a) hw.out (by unfold fsI; split; simp; split <;> simp) (hide (in_places B wa.heap.size Q w ws kd (nOf kd) aw a hs.out)) W0 HI0
      have HCL := hide hcall
      clear hcall HI0 hPl hb0
      go_wp2_with fail
      refine HCL.out.mono ?_
      clear HCL
      rintro e W1 ⟨b, rfl, hF⟩
      cases b with
      | false =>
        obtain ⟨h1, k', hI⟩ := hF.2 rfl
        have HR : Hid (LineR B R U J K w W1 false r) := by
          have e1 : r = none := by
            rw [hr.out]
            exact instrL_no HOP.out HKN.out h1
          rw [e1]
          exact ⟨hI.below.mono HX0.out.lt.1, rfl, fun m' h => by cases h⟩
        clear hF h1 hI
        go_wp2
        go_ret
        first | exact ⟨false, rfl, HR.out⟩ | exact .inl ⟨rfl, HR.out⟩
      | true =>
        obtain ⟨h1, ⟨ns, hns⟩, hI⟩ := hF.1 rfl
        rw [← h1] at hI
        have hgs := nums_guess hns
        have h64 := nums_i64 hns
        rw [hgs] at h64
        obtain ⟨x, hxl⟩ : ∃ x, us[us.length - 1]? = some x := ⟨_, List.getElem?_eq_getElem (by omega)⟩
        obtain ⟨ii, hii⟩ : ∃ ii, ii = insK kd (nOf kd) ws ws.length := ⟨_, rfl⟩
        have hbx : W1.heap[wa.heap.size]? = some (inO3 ii) := by rw [hii]; exact hI.ins
        have HRR : Hid (∀ (a : Option Addr) (c : Nat), r = some ⟨m.boxes, (us.set (us.length - 1) ⟨{ x.u with code := x.u.code ++ [ii] }, x.al, a, x.cl, c⟩).map (·.u)⟩) := fun a c => by
          rw [hr.out, instrL_yes HOP.out HKN.out h1 hns, ← hii, ← HX0.out.same, add_set hxl ii a c]
          rfl
        have H64 : Hid (I64 ii.op ∧ I64 ii.a ∧ I64 ii.n) := by
          have hz : I64 0 := ⟨by decide, by decide⟩
          have hf : ws.length = 1 → I64 (fld ws ws.length 0) := fun e => h64 _ (fld_mem (by omega))
          rw [hii]
          refine ⟨HK64.out, ?_, ?_⟩
          · show I64 (if nOf kd = 2 then _ else 0)
            split
            · rename_i e; refine hf ?_; rw [h1, e]; rfl
            · exact hz
          · show I64 (if nOf kd = 1 then _ else 0)
            split
            · rename_i e; refine hf ?_; rw [h1, e]; rfl
            · exact hz
        have HB1 : Hid (Below B w W1) := hI.below.mono HX0.out.lt.1
        have HX1 := hide (HX0.out.new hI.below)
        have HXL := hide hxl
        have HFC : Hid (x.u.code.length + 1 ≤ 60001) := by unfold Hid; have := HX1.out.few.2.2 x (List.mem_of_getElem? hxl); have := hK.out; omega
        obtain ⟨g, hg1⟩ : ∃ g, au = some ⟨g, 0, none⟩ := by
          rcases HX1.out.units.2 with ⟨e, h0⟩ | ⟨g, _, _, e, _⟩
          · omega
          · cases e; exact ⟨g, rfl⟩
        subst hg1
        have HGV : Hid ((Value.slice (some ⟨g, 0, none⟩) us.length cu).ownBlock = some g) := rfl
        have HLN : Hid (us.length - 1 = n) := by unfold Hid; omega
        obtain ⟨g', e', _, hgl, cc⟩ := own_cell HX1.out.units (j := n * 6 + 5) (v := codV x) (by have := uvs_at us _ x hxl 5 (by decide); rw [HLN.out] at this; exact this)
        cases e'
        obtain ⟨c0, c1, _⟩ := rd_cells HX1.out.blk
        rw [hn] at c1
        obtain ⟨d0, d1, d2, _⟩ := in3_cells hbx
        have n0 : (0 : Int) ≤ (n : Int) := by omega
        have n1 : (n : Int) < (n : Int) + 1 := by omega
        have n2 : (n : Int) ≤ 60000 := by have := HX1.out.few.2.1; have := hK.out; omega
        clear hF hI hbx hns hgs h64 hii HX0 HOP HKN HK64 hxl HBV HIN HNS HXV h1 hn
        go_wp2
        go_quiet (fail)
        obtain ⟨W2, hW2⟩ : ∃ W2, W2 = W1.drewN nq := ⟨_, rfl⟩
        have hb2 : Below W1.heap.size W1 W2 := by rw [hW2]; exact below_drewN _ _
        have HX := hide (HX1.out.new hb2)
        have e0 : W2.cell? ⟨wa.heap.size, 0, none⟩ = some (.int .i64 ii.op) := by rw [hW2]; exact d0
        have e1 : W2.cell? ⟨wa.heap.size, 1, none⟩ = some (.int .i64 ii.a) := by rw [hW2]; exact d1
        have e2 : W2.cell? ⟨wa.heap.size, 2, none⟩ = some (.int .i64 ii.n) := by rw [hW2]; exact d2
        have ec : W2.cell? ⟨g, n * 6 + 5, none⟩ = some (codV x) := by rw [hW2]; exact cc
        have hgl2 : g < W2.heap.size := Nat.lt_of_lt_of_le hgl hb2.size
        have HB2 : Hid (Below B w W2) := HB1.out.trans (hb2.mono HX1.out.lt.1)
        rw [← hW2]
        clear hW2 hb2 HX1 d0 d1 d2 cc c0 c1 HB1
        have HB1 := HB2
        clear HB2
        go_wp2
        refine wp_region_any (by kernel_rfl) ?_
        change wpAny _ _ _ _ _ _ _ (World.drew _)
        refine wpAny_take (i := 0) (v := ptI g (n * 6)) rfl (by kernel_rfl) (by kernel_rfl) (by kernel_rfl) (fun _ _ _ h => h) (Or.inl ⟨by rfl, ?_⟩) ?_
        · intro w; go_simp
        simp only [Act.put]
        refine wpAny_take (i := 1) (v := ptI g (n * 6)) rfl (by kernel_rfl) (by kernel_rfl) (by kernel_rfl) (fun _ _ _ h => h) (Or.inl ⟨by rfl, ?_⟩) ?_
        · intro w; go_simp
        simp only [Act.put]
        refine wpAny_take (i := 2) (v := ptI g (n * 6)) rfl (by kernel_rfl) (by kernel_rfl) (by kernel_rfl) (fun _ _ _ h => h) (Or.inl ⟨by rfl, ?_⟩) ?_
        · intro w; go_simp
        simp only [Act.put]
        refine wpAny_take (i := 3) (v := ptI g (n * 6 + 5)) rfl (by kernel_rfl) (by kernel_rfl) (by kernel_rfl) (fun _ _ _ h => h) (Or.inl ⟨by rfl, ?_⟩) ?_
        · intro w; go_simp
        simp only [Act.put]
        refine wpAny_ready (rs := [4, 5]) (by kernel_rfl) (by simp) ?_
        refine AllReady.cons rfl (fun K hK => ?_) ?_
        · go_simp
          refine hK _ _ ?_
          clear hK K
          refine wpAny_ready (rs := [5]) (by kernel_rfl) (by simp) ?_
          refine AllReady.cons rfl (fun K hK => ?_) ?_
          · go_simp
            refine hK _ _ ?_
            clear hK K
            refine wpAny_ready (rs := [6]) (by kernel_rfl) (by simp) ?_
            refine AllReady.cons rfl (fun K hK => ?_) ?_
            · go_simp
              refine hK _ _ ?_
              clear hK K
              refine wpAny_ready (rs := [7]) (by kernel_rfl) (by simp) ?_
              refine AllReady.cons rfl (fun K hK => ?_) ?_
              · refine step_append_own rfl (.tmp 56) (.tmp 58) 39 rfl C 43 i0 (.agg #[.int .i64 0, .int .i64 0, .int .i64 0]) 3 24 Tryz.underlying39 hi hz0 hz1 hz2 rfl (by decide) _ x.u.code.length (inss x.u.code) rfl (own_new (HX.out.last x HXL.out) (drew_alloc W2 _)) ⟨W2.heap.size, 0, none⟩ 1 1 (inC ii) rfl rfl (news_at W2.drew (inC ii) _) (all_one rfl) (by have := HFC.out; unfold maxLen; omega) (by have := HFC.out; omega) (by have := HX.out.le.2; simp; omega) ?_
                intro vc' w4 hown4 hg4
                obtain ⟨a', c', hv'⟩ := own_form hown4
                subst hv'
                obtain ⟨hRD, hBl, cR, gR⟩ := HX.out.instr HXL.out H64.out HGV.out (drew_alloc W2 _) hg4 hown4
                rw [HLN.out] at cR gR
                have HRD := hide hRD
                have HBl := hide hBl
                clear hown4 hg4 hRD hBl
                refine hK _ _ ?_
                clear hK K
                simp only [Act.put]
                refine wpAny_take (i := 8) (v := ptI g (n * 6)) rfl (by kernel_rfl) (by kernel_rfl) (by kernel_rfl) (fun _ _ _ h => h) (Or.inl ⟨by rfl, ?_⟩) ?_
                · intro w; go_simp
                simp only [Act.put]
                refine wpAny_take (i := 9) (v := ptI g (n * 6 + 5)) rfl (by kernel_rfl) (by kernel_rfl) (by kernel_rfl) (fun _ _ _ h => h) (Or.inl ⟨by rfl, ?_⟩) ?_
                · intro w; go_simp
                simp only [Act.put]
                refine wpAny_ready (rs := [10]) (by kernel_rfl) (by simp) ?_
                refine AllReady.cons rfl (fun K hK => ?_) ?_
                · go_simp
                  refine hK _ _ ?_
                  clear hK K
                  refine wpAny_done (by kernel_rfl) ?_ _
                  go_wp2
                  go_ret
                  have e2 := HLN.out
                  first | exact ⟨true, rfl, by have := HB1.out.trans HBl.out; rw [e2] at this; exact this, by rw [HRR.out a' c']; rfl, fun m' hm' => by rw [HRR.out a' c'] at hm'; cases hm'; have h3 := HRD.out; rw [← e2]; exact ⟨_, _, _, _, h3⟩⟩ | exact .inr ⟨rfl, by have := HB1.out.trans HBl.out; rw [e2] at this; exact this, by rw [HRR.out a' c']; rfl, fun m' hm' => by rw [HRR.out a' c'] at hm'; cases hm'; have h3 := HRD.out; rw [← e2]; exact ⟨_, _, _, _, h3⟩⟩
                exact AllReady.nil
              exact AllReady.nil
            exact AllReady.nil
          exact AllReady.nil
        refine AllReady.cons rfl (fun K hK => ?_) ?_
        · go_simp
          refine hK _ _ ?_
          clear hK K
          refine wpAny_ready (rs := [4, 6]) (by kernel_rfl) (by simp) ?_
          refine AllReady.cons rfl (fun K hK => ?_) ?_
          · go_simp
            refine hK _ _ ?_
            clear hK K
            refine wpAny_ready (rs := [6]) (by kernel_rfl) (by simp) ?_
            refine AllReady.cons rfl (fun K hK => ?_) ?_
            · go_simp
              refine hK _ _ ?_
              clear hK K
              refine wpAny_ready (rs := [7]) (by kernel_rfl) (by simp) ?_
              refine AllReady.cons rfl (fun K hK => ?_) ?_
              · refine step_append_own rfl (.tmp 56) (.tmp 58) 39 rfl C 43 i0 (.agg #[.int .i64 0, .int .i64 0, .int .i64 0]) 3 24 Tryz.underlying39 hi hz0 hz1 hz2 rfl (by decide) _ x.u.code.length (inss x.u.code) rfl (own_new (HX.out.last x HXL.out) (drew_alloc W2 _)) ⟨W2.heap.size, 0, none⟩ 1 1 (inC ii) rfl rfl (news_at W2.drew (inC ii) _) (all_one rfl) (by have := HFC.out; unfold maxLen; omega) (by have := HFC.out; omega) (by have := HX.out.le.2; simp; omega) ?_
                intro vc' w4 hown4 hg4
                obtain ⟨a', c', hv'⟩ := own_form hown4
                subst hv'
                obtain ⟨hRD, hBl, cR, gR⟩ := HX.out.instr HXL.out H64.out HGV.out (drew_alloc W2 _) hg4 hown4
                rw [HLN.out] at cR gR
                have HRD := hide hRD
                have HBl := hide hBl
                clear hown4 hg4 hRD hBl
                refine hK _ _ ?_
                clear hK K
                simp only [Act.put]
                refine wpAny_take (i := 8) (v := ptI g (n * 6)) rfl (by kernel_rfl) (by kernel_rfl) (by kernel_rfl) (fun _ _ _ h => h) (Or.inl ⟨by rfl, ?_⟩) ?_
                · intro w; go_simp
                simp only [Act.put]
                refine wpAny_take (i := 9) (v := ptI g (n * 6 + 5)) rfl (by kernel_rfl) (by kernel_rfl) (by kernel_rfl) (fun _ _ _ h => h) (Or.inl ⟨by rfl, ?_⟩) ?_
                · intro w; go_simp
                simp only [Act.put]
                refine wpAny_ready (rs := [10]) (by kernel_rfl) (by simp) ?_
                refine AllReady.cons rfl (fun K hK => ?_) ?_
                · go_simp
                  refine hK _ _ ?_
                  clear hK K
                  refine wpAny_done (by kernel_rfl) ?_ _
                  go_wp2
                  go_ret
                  have e2 := HLN.out
                  first | exact ⟨true, rfl, by have := HB1.out.trans HBl.out; rw [e2] at this; exact this, by rw [HRR.out a' c']; rfl, fun m' hm' => by rw [HRR.out a' c'] at hm'; cases hm'; have h3 := HRD.out; rw [← e2]; exact ⟨_, _, _, _, h3⟩⟩ | exact .inr ⟨rfl, by have := HB1.out.trans HBl.out; rw [e2] at this; exact this, by rw [HRR.out a' c']; rfl, fun m' hm' => by rw [HRR.out a' c'] at hm'; cases hm'; have h3 := HRD.out; rw [← e2]; exact ⟨_, _, _, _, h3⟩⟩
                exact AllReady.nil
              exact AllReady.nil
            exact AllReady.nil
          refine AllReady.cons rfl (fun K hK => ?_) ?_
          · go_simp
            refine hK _ _ ?_
            clear hK K
            refine wpAny_ready (rs := [4]) (by kernel_rfl) (by simp) ?_
            refine AllReady.cons rfl (fun K hK => ?_) ?_
            · go_simp
              refine hK _ _ ?_
              clear hK K
              refine wpAny_ready (rs := [7]) (by kernel_rfl) (by simp) ?_
              refine AllReady.cons rfl (fun K hK => ?_) ?_
              · refine step_append_own rfl (.tmp 56) (.tmp 58) 39 rfl C 43 i0 (.agg #[.int .i64 0, .int .i64 0, .int .i64 0]) 3 24 Tryz.underlying39 hi hz0 hz1 hz2 rfl (by decide) _ x.u.code.length (inss x.u.code) rfl (own_new (HX.out.last x HXL.out) (drew_alloc W2 _)) ⟨W2.heap.size, 0, none⟩ 1 1 (inC ii) rfl rfl (news_at W2.drew (inC ii) _) (all_one rfl) (by have := HFC.out; unfold maxLen; omega) (by have := HFC.out; omega) (by have := HX.out.le.2; simp; omega) ?_
                intro vc' w4 hown4 hg4
                obtain ⟨a', c', hv'⟩ := own_form hown4
                subst hv'
                obtain ⟨hRD, hBl, cR, gR⟩ := HX.out.instr HXL.out H64.out HGV.out (drew_alloc W2 _) hg4 hown4
                rw [HLN.out] at cR gR
                have HRD := hide hRD
                have HBl := hide hBl
                clear hown4 hg4 hRD hBl
                refine hK _ _ ?_
                clear hK K
                simp only [Act.put]
                refine wpAny_take (i := 8) (v := ptI g (n * 6)) rfl (by kernel_rfl) (by kernel_rfl) (by kernel_rfl) (fun _ _ _ h => h) (Or.inl ⟨by rfl, ?_⟩) ?_
                · intro w; go_simp
                simp only [Act.put]
                refine wpAny_take (i := 9) (v := ptI g (n * 6 + 5)) rfl (by kernel_rfl) (by kernel_rfl) (by kernel_rfl) (fun _ _ _ h => h) (Or.inl ⟨by rfl, ?_⟩) ?_
                · intro w; go_simp
                simp only [Act.put]
                refine wpAny_ready (rs := [10]) (by kernel_rfl) (by simp) ?_
                refine AllReady.cons rfl (fun K hK => ?_) ?_
                · go_simp
                  refine hK _ _ ?_
                  clear hK K
                  refine wpAny_done (by kernel_rfl) ?_ _
                  go_wp2
                  go_ret
                  have e2 := HLN.out
                  first | exact ⟨true, rfl, by have := HB1.out.trans HBl.out; rw [e2] at this; exact this, by rw [HRR.out a' c']; rfl, fun m' hm' => by rw [HRR.out a' c'] at hm'; cases hm'; have h3 := HRD.out; rw [← e2]; exact ⟨_, _, _, _, h3⟩⟩ | exact .inr ⟨rfl, by have := HB1.out.trans HBl.out; rw [e2] at this; exact this, by rw [HRR.out a' c']; rfl, fun m' hm' => by rw [HRR.out a' c'] at hm'; cases hm'; have h3 := HRD.out; rw [← e2]; exact ⟨_, _, _, _, h3⟩⟩
                exact AllReady.nil
              exact AllReady.nil
            exact AllReady.nil
          exact AllReady.nil
        exact AllReady.nil

end Go.Proofs.YtbdcmkmeljddmaaGreatDoor.Aw

