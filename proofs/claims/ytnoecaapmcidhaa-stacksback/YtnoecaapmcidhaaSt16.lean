/- StacksBack: the walk of the law. -/
import Derived.Test.YtnoecaapmcidhaaSt15
namespace Go.Proofs.Ytnoecaapmcidhaa
open Go.RowKit

/-- Words lie at a, below B. -/
def IntsIn (B : Nat) (w : World) (vs : List Int) (a : Option Addr) : Prop := ∀ i x, vs[i]? = some x → ∃ b off, a = some ⟨b, off, none⟩ ∧ b < B ∧ w.cell? ⟨b, off + i, none⟩ = some (.int .i64 x)

theorem IntsIn.on {B : Nat} {w w' : World} {vs : List Int} {a : Option Addr} (h : IntsIn B w vs a) (hb : Below B w w') : IntsIn B w' vs a := fun i o ho => by
  obtain ⟨b, off, e, hlt, c0⟩ := h i o ho
  exact ⟨b, off, e, hlt, (hb.cell (p := ⟨b, _, none⟩) hlt).trans c0⟩

def psh (vs : List Int) : List Sk.Op := vs.map fun v => ⟨1, 0, v⟩

theorem own_new3 (X : World) (e : TypeId) {M q : Nat} (hq : q = X.heap.size) (hM : M ≤ q) : (X.alloc (.cells #[] e)).ownsRow M e 3 (.slice (some ⟨q, 0, none⟩) 0 0) 0 [] := by
  subst hq
  exact ⟨rfl, .inr ⟨X.heap.size, 0, #[], rfl, hM, heap_alloc_new X _, Nat.le_refl _, Nat.zero_le _, rfl, rfl⟩⟩

abbrev fltO (E P : Nat) : Obj := .cells #[.int .i64 E, .int .i64 P] 27 (0, 0)

/-- What holds while the doings are gathered. -/
structure BkAt (w : World) (v1 : Value) (ws : List Int) (F E P : Nat) (v : Value) (l : List Sk.Op) (W : World) : Prop where
  own : W.ownsRow w.heap.size 36 3 v l.length (opCells l)
  own1 : W.ownsRow w.heap.size 2 1 v1 ws.length (ints ws)
  flt : W.heap[F]? = some (fltO E P)
  below : Below w.heap.size w W

theorem BkAt.next {w : World} {v1 : Value} {ws : List Int} {F E P : Nat} {v v' : Value} {l l' : List Sk.Op} {W w3 : World} {ob : Obj} (h : BkAt w v1 ws F E P v l W) (hown : w3.ownsRow w.heap.size 36 3 v' l'.length (opCells l')) (hg : (W.alloc ob).grownBy w3 v.ownBlock) : BkAt w v1 ws F E P v' l' w3 := by
  have hz := h.below.size
  have hzz := hg.size
  simp at hzz
  have blk : ∀ k, k < W.heap.size → v.ownBlock ≠ some k → w3.heap[k]? = W.heap[k]? := fun k hk h1 => (hg.block k (by simp; omega) (fun e => h1 e.symm)).trans (Below.heap_alloc _ _ _ hk)
  refine ⟨hown, own_keep h.own1 (fun j hj => blk j (h.own1.lt j hj).2 (own_apart h.own1 h.own (by decide) j hj)), ?_, (h.below.alloc (by omega) _).grown hg (by simp; omega) (fun j hj => (h.own.lt j hj).1)⟩
  rw [blk _ (lt_of_block h.flt) (own_ty h.own h.flt (by decide))]; exact h.flt

theorem op_news (W : World) (o : Sk.Op) : ∀ j u, (opc o)[j]? = some u → (W.alloc (.cells #[.int .i64 o.kind, .int .i64 o.n, .int .i64 o.v] 36)).cell? ((⟨W.heap.size, 0, none⟩ : Addr).add j) = some u := by
  intro j u hu
  rw [add_none, World.cell?_alloc_mark]
  match j, hu with
  | 0, hu => simpa [opc] using hu
  | 1, hu => simpa [opc] using hu
  | 2, hu => simpa [opc] using hu
  | n + 3, hu => simp [opc] at hu

theorem own_ops2 {W : World} {B n : Nat} {v : Value} {l : List Sk.Op} (h : W.ownsRow B 36 3 v n (opCells l)) : ∃ a c n5, v = .slice a n5 c ∧ n5 = l.length ∧ OpsIn W.heap.size W l a := by
  obtain ⟨a, c, hv, _, hin⟩ := own_ops h
  exact ⟨a, c, _, hv, rfl, hin⟩


theorem psh_snoc (l : List Sk.Op) (vs : List Int) (k : Nat) (x : Int) (h : vs[k]? = some x) : l ++ psh (vs.take (k + 1)) = l ++ psh (vs.take k) ++ [⟨1, 0, x⟩] := by
  obtain ⟨hk, rfl⟩ := List.getElem?_eq_some_iff.1 h
  rw [List.take_succ_eq_append_getElem hk]
  unfold psh
  rw [List.map_append, List.append_assoc]
  rfl
theorem flt_cells {w : World} {F E P : Nat} (h : w.heap[F]? = some (fltO E P)) : w.cell? ⟨F, 0, none⟩ = some (.int .i64 E) ∧ w.cell? ⟨F, 1, none⟩ = some (.int .i64 P) ∧ w.frozen? ⟨F, 0, none⟩ = false ∧ w.frozen? ⟨F, 1, none⟩ = false := by
  simp [World.cell?, World.frozen?, h]


set_option maxRecDepth 100000 in
set_option maxHeartbeats 1000000 in
theorem stacksBack_any (mn most : Int) (L : List Sk.Op) (a : Option Addr) (c : Nat) (vs : List Int) (a2 : Option Addr) (c2 : Nat) (w : World) (hin : Hid (OpsIn w.heap.size w L a)) (hnil : a = none → c = 0) (hin2 : Hid (IntsIn w.heap.size w vs a2)) (hlen : L.length * 24 ≤ 140737488351232) (hvs : vs.length ≤ 140737488351232) :
    Calls Try.prog 6 #[.int .i64 mn, .int .i64 most, .slice a L.length c, .slice a2 vs.length c2] w fun e w' => e = .returned (.bool true) ∧ Below w.heap.size w w' := by
  obtain ⟨ws, rs, E, P, hgo⟩ : ∃ ws rs E P, Sk.play mn most L = (ws, rs, E, P) := ⟨_, _, _, _, rfl⟩
  have HGO := hide hgo
  have hws := play_few hgo
  clear hgo
  by_cases hE : E = 0
  · have e1 : ((E : Int) != 0) = false := by simp; omega
    by_cases hm : most < (ws.length : Int) + (vs.length : Int)
    · clear hnil
      go_enter Try.func6, Try.ntmps6
      go_wp2_with fail
      refine (alive_any w).mono ?_
      rintro e w0 ⟨rfl, hb0⟩
      have HB0 := hide hb0
      clear hb0
      go_wp2_with fail
      refine (play_any mn most L a c _ ((hin.out.on HB0.out).wide HB0.out.size) (by omega) ws rs E P HGO).mono ?_
      rintro e w1 ⟨v1, v2, rfl, o1, o2, hb1⟩
      have HO1 := hide o1
      have HB1 : Hid (Below w.heap.size w w1) := HB0.out.trans (hb1.mono HB0.out.size)
      obtain ⟨a1, k1, hv1⟩ : ∃ a1 k1, v1 = .slice a1 ws.length k1 := by
        rcases o1.2 with ⟨rfl, h0⟩ | ⟨g, cap, cur, rfl, _⟩
        · rw [h0]; exact ⟨_, _, rfl⟩
        · exact ⟨_, _, rfl⟩
      subst hv1
      clear o1 o2 hb1
      go_wp2
      go_ret
      exact ⟨rfl, HB1.out.alloc HB1.out.size _⟩
    · have hv4 : vs.length ≤ 400 := by
        have hh := HGO.out
        unfold Sk.play at hh
        split at hh
        · have h3 : 3 = E := congrArg (fun x => x.2.2.1) hh
          omega
        · omega
      obtain ⟨rs', hgo'⟩ : ∃ rs', Sk.play mn most (L ++ psh vs ++ [⟨2, vs.length, 0⟩]) = (ws, rs', 0, 0) := by
        have hb := Sk.play_back (mn := mn) (most := most) (l := L) (vs := vs) (by rw [HGO.out]; exact hE) (by rw [HGO.out]; exact Int.not_lt.1 hm)
        rw [HGO.out] at hb
        have hp : (Sk.play mn most (L ++ psh vs ++ [⟨2, vs.length, 0⟩])).2.2.2 = 0 := by
          unfold Sk.play at *
          split
          · rfl
          · rename_i hc; rw [if_neg hc] at hb; exact Sk.go_ok _ _ _ _ _ hb.1
        exact ⟨(Sk.play mn most (L ++ psh vs ++ [⟨2, vs.length, 0⟩])).2.1, Prod.ext hb.2 (Prod.ext rfl (Prod.ext hb.1 hp))⟩
      have HGO' := hide hgo'
      clear hgo' hE
      go_enter Try.func6, Try.ntmps6
      go_wp2_with fail
      refine (alive_any w).mono ?_
      rintro e w0 ⟨rfl, hb0⟩
      have HB0 := hide hb0
      clear hb0
      go_wp2_with fail
      refine (play_any mn most L a c _ ((hin.out.on HB0.out).wide HB0.out.size) (by omega) ws rs E P HGO).mono ?_
      rintro e w1 ⟨v1, v2, rfl, o1, o2, hb1⟩
      have HO1 := hide o1
      have HB1 : Hid (Below w.heap.size w w1) := HB0.out.trans (hb1.mono HB0.out.size)
      obtain ⟨a1, k1, hv1⟩ : ∃ a1 k1, v1 = .slice a1 ws.length k1 := by
        rcases o1.2 with ⟨rfl, h0⟩ | ⟨g, cap, cur, rfl, _⟩
        · rw [h0]; exact ⟨_, _, rfl⟩
        · exact ⟨_, _, rfl⟩
      subst hv1
      clear o1 o2 hb1
      have HFL : Hid ((w1.alloc (.cells #[.int .i64 E, .int .i64 P] 27)).heap[w1.heap.size]? = some (fltO E P)) := heap_alloc_new w1 _
      have HO1a := hide (own_base (HO1.out.alloc (.cells #[.int .i64 E, .int .i64 P] 27)) HB0.out.size)
      have HBa : Hid (Below w.heap.size w (w1.alloc (.cells #[.int .i64 E, .int .i64 P] 27))) := HB1.out.alloc HB1.out.size _
      obtain ⟨i0, hi, hz0, hz1, hz2⟩ := info_parts Try.info36
      have HIN2 : Hid (IntsIn w.heap.size w vs a2) := hin2
      cases a with
      | none =>
        obtain rfl : c = 0 := hnil rfl
        obtain rfl : L = [] := by
          cases L with
          | nil => rfl
          | cons o l =>
            obtain ⟨b, off, e, _⟩ := hin.out 0 o rfl
            simp at e
        go_wp2_with (at_builtin; refine wpList_append_own_none rfl (.tmp 39) (.tmp 40) 22 rfl (w1.heap.size + 1) 36 i0 3 Try.underlying22 hi (.slice (some ⟨w1.heap.size + 1, 0, none⟩) 0 0) 0 [] rfl (own_new3 _ _ (sz1 _ _) (Nat.le_refl _)) rfl ?_)
        have HS : Hid (BkAt w (.slice a1 ws.length k1) ws w1.heap.size E P (.slice (some ⟨w1.heap.size + 1, 0, none⟩) 0 0) [] ((w1.alloc (.cells #[.int .i64 E, .int .i64 P] 27)).alloc (.cells #[] 36))) := ⟨own_base (own_new3 _ _ (sz1 _ _) (Nat.le_refl _)) (by have := HB1.out.size; omega), HO1a.out.alloc _, (Below.heap_alloc _ _ _ (by simp)).trans HFL.out, HBa.out.alloc HBa.out.size _⟩
        go_loopw [12, 44] (fun mv iv wr => ∃ k : Nat, k ≤ vs.length ∧ iv = .int .i64 k ∧ BkAt w (.slice a1 ws.length k1) ws w1.heap.size E P mv (([] : List Sk.Op) ++ psh (vs.take k)) wr) (fun _ iv _ => vs.length - (intOf iv).toNat)
        case atStart => exact ⟨0, Nat.zero_le _, rfl, by simpa [psh] using HS.out⟩
        case round =>
          obtain ⟨k, hk, rfl, hA⟩ := hrel
          have HA := hide hA
          have hsz := hA.below.size
          clear hA HS
          have hll : (([] : List Sk.Op) ++ psh (vs.take k)).length ≤ 5864062020000 := by simp [psh]; omega
          by_cases hlt : k < vs.length
          · obtain ⟨x, hx⟩ : ∃ x, vs[k]? = some x := ⟨_, List.getElem?_eq_getElem hlt⟩
            obtain ⟨b, off, rfl, hbl, c0⟩ := HIN2.out.on HA.out.below k x hx
            have HSN := hide (psh_snoc ([] : List Sk.Op) vs k x hx)
            have b0 : (0 : Int) ≤ (k : Int) := by omega
            have b1 : (k : Int) < (vs.length : Int) := by omega
            clear hx
            go_wp2_with (at_builtin; refine wpList_append_op rfl (.tmp 48) (.tmp 51) rfl w.heap.size u12 (([] : List Sk.Op) ++ psh (vs.take k)) ⟨1, 0, x⟩ rfl (HA.out.own.alloc _) ⟨wr.heap.size, 0, none⟩ rfl (op_news _ ⟨1, 0, x⟩) hll (HA.out.below.alloc hsz _).size ?_; intro v' w5 hown' hgrow)
            have HN : Hid (BkAt w (.slice a1 ws.length k1) ws w1.heap.size E P v' (([] : List Sk.Op) ++ psh (vs.take (k + 1))) w5) := by
              unfold Hid
              rw [HSN.out]
              exact HA.out.next hown' hgrow
            clear hown' hgrow
            go_wp2
            go_roundw
            case rel => exact ⟨k + 1, hlt, by go_num, HN.out⟩
            case measure => simp [intOf]; omega
          · have HTK : Hid (vs.take k = vs) := List.take_of_length_le (by omega)
            go_wp2_with (first | (at_builtin; refine wpList_append_op rfl (.tmp 54) (.tmp 58) rfl w.heap.size u12 (([] : List Sk.Op) ++ psh (vs.take k)) ⟨2, vs.length, 0⟩ rfl (HA.out.own.alloc _) ⟨wr.heap.size, 0, none⟩ rfl (op_news _ ⟨2, vs.length, 0⟩) hll (HA.out.below.alloc hsz _).size ?_; intro v' w5 hown' hgrow; obtain ⟨a5, c5, n5, hv5, hn5, hin5⟩ := own_ops2 hown'; subst hv5; have HN5 := hide hn5; have HIN5 := hide hin5; have HBK := hide (HA.out.next hown' hgrow); clear hn5 hin5 hown' hgrow) | fail)
            rw [HN5.out]
            refine (play_any mn most _ a5 c5 _ HIN5 (by simp [psh]; omega) ws rs' 0 0 (by have := HGO'.out; rw [HTK.out]; exact this)).mono ?_
            rintro e w6 ⟨v7, v8, rfl, o7, o8, hb7⟩
            have HO7 := hide o7
            have HO1c := hide (own_keep HBK.out.own1 (fun k hk => hb7.block k (HBK.out.own1.lt k hk).2))
            have HB7 : Hid (Below w.heap.size w w6) := HBK.out.below.trans (hb7.mono HBK.out.below.size)
            have hF7 : w6.heap[w1.heap.size]? = some (fltO E P) := (hb7.block _ (lt_of_block HBK.out.flt)).trans HBK.out.flt
            obtain ⟨z0, z1, y0, y1⟩ := flt_cells hF7
            have HN1 := hide (own_ty HO1c.out hF7 (by decide))
            have HN7 := hide (own_ty HO7.out hF7 (by decide))
            clear o7 o8 hb7 hF7
            go_wp2_with fail
            refine (same_any _ v7 ws _ _ ws.length _ (ownsRow_setCell_other (a := ⟨w1.heap.size, 1, none⟩) (ownsRow_setCell_other (a := ⟨w1.heap.size, 0, none⟩) HO1c.out HN1.out _) HN1.out _) (ownsRow_setCell_other (a := ⟨w1.heap.size, 1, none⟩) (ownsRow_setCell_other (a := ⟨w1.heap.size, 0, none⟩) HO7.out HN7.out _) HN7.out _) (by omega)).mono ?_
            rintro e w9 ⟨rfl, d, rfl⟩
            go_wp2
            go_ret
            exact ⟨rfl, below_drewN' ((HB7.out.setCell (p := ⟨w1.heap.size, 0, none⟩) HB1.out.size _).setCell (p := ⟨w1.heap.size, 1, none⟩) HB1.out.size _) _⟩
      | some ad =>
        have HNW : Hid (∀ j u, (opCells L)[j]? = some u → ((w1.alloc (.cells #[.int .i64 E, .int .i64 P] 27)).alloc (.cells #[] 36)).cell? (ad.add j) = some u) := ops_news (hin.out.on (HBa.out.alloc HBa.out.size _))
        go_wp2_with (at_builtin; refine wpList_append_own _ rfl (.tmp 39) (.tmp 40) 22 rfl (w1.heap.size + 1) 36 i0 _ 3 24 Try.underlying22 hi hz0 hz1 hz2 rfl (by decide) (.slice (some ⟨w1.heap.size + 1, 0, none⟩) 0 0) 0 [] rfl (own_new3 _ _ (sz1 _ _) (Nat.le_refl _)) ad L.length c (opCells L) rfl (opCells_len L) HNW.out (opCells_one1 L) (by unfold maxLen; omega) (by omega) (le_al2 _ _ _) ?_; intro v' w3 hown' hgrow _)
        have HS : Hid (BkAt w (.slice a1 ws.length k1) ws w1.heap.size E P v' L w3) := by
          have hg2 : ((w1.alloc (.cells #[.int .i64 E, .int .i64 P] 27)).alloc (.cells #[] 36)).grownBy w3 (some (w1.heap.size + 1)) := hgrow
          have b1 := HB1.out.size
          have hv := HO1.out.lt
          refine ⟨own_base (by simpa using hown') (by omega), own_grown (HO1a.out.alloc _) hg2 ?_, ?_, below_grown (HBa.out.alloc HBa.out.size _) (Nat.le_refl _) hg2 (by omega)⟩
          · intro e1
            have := ((HO1.out).lt _ e1).2
            omega
          · rw [hg2.block _ (by simp <;> omega) (by simp)]
            exact (Below.heap_alloc _ _ _ (by simp)).trans HFL.out
        clear hown' hgrow
        go_loopw [12, 44] (fun mv iv wr => ∃ k : Nat, k ≤ vs.length ∧ iv = .int .i64 k ∧ BkAt w (.slice a1 ws.length k1) ws w1.heap.size E P mv (L ++ psh (vs.take k)) wr) (fun _ iv _ => vs.length - (intOf iv).toNat)
        case atStart => exact ⟨0, Nat.zero_le _, rfl, by simpa [psh] using HS.out⟩
        case round =>
          obtain ⟨k, hk, rfl, hA⟩ := hrel
          have HA := hide hA
          have hsz := hA.below.size
          clear hA HS
          have hll : (L ++ psh (vs.take k)).length ≤ 5864062020000 := by simp [psh]; omega
          by_cases hlt : k < vs.length
          · obtain ⟨x, hx⟩ : ∃ x, vs[k]? = some x := ⟨_, List.getElem?_eq_getElem hlt⟩
            obtain ⟨b, off, rfl, hbl, c0⟩ := HIN2.out.on HA.out.below k x hx
            have HSN := hide (psh_snoc L vs k x hx)
            have b0 : (0 : Int) ≤ (k : Int) := by omega
            have b1 : (k : Int) < (vs.length : Int) := by omega
            clear hx
            go_wp2_with (at_builtin; refine wpList_append_op rfl (.tmp 48) (.tmp 51) rfl w.heap.size u12 (L ++ psh (vs.take k)) ⟨1, 0, x⟩ rfl (HA.out.own.alloc _) ⟨wr.heap.size, 0, none⟩ rfl (op_news _ ⟨1, 0, x⟩) hll (HA.out.below.alloc hsz _).size ?_; intro v' w5 hown' hgrow)
            have HN : Hid (BkAt w (.slice a1 ws.length k1) ws w1.heap.size E P v' (L ++ psh (vs.take (k + 1))) w5) := by
              unfold Hid
              rw [HSN.out]
              exact HA.out.next hown' hgrow
            clear hown' hgrow
            go_wp2
            go_roundw
            case rel => exact ⟨k + 1, hlt, by go_num, HN.out⟩
            case measure => simp [intOf]; omega
          · have HTK : Hid (vs.take k = vs) := List.take_of_length_le (by omega)
            go_wp2_with (first | (at_builtin; refine wpList_append_op rfl (.tmp 54) (.tmp 58) rfl w.heap.size u12 (L ++ psh (vs.take k)) ⟨2, vs.length, 0⟩ rfl (HA.out.own.alloc _) ⟨wr.heap.size, 0, none⟩ rfl (op_news _ ⟨2, vs.length, 0⟩) hll (HA.out.below.alloc hsz _).size ?_; intro v' w5 hown' hgrow; obtain ⟨a5, c5, n5, hv5, hn5, hin5⟩ := own_ops2 hown'; subst hv5; have HN5 := hide hn5; have HIN5 := hide hin5; have HBK := hide (HA.out.next hown' hgrow); clear hn5 hin5 hown' hgrow) | fail)
            rw [HN5.out]
            refine (play_any mn most _ a5 c5 _ HIN5 (by simp [psh]; omega) ws rs' 0 0 (by have := HGO'.out; rw [HTK.out]; exact this)).mono ?_
            rintro e w6 ⟨v7, v8, rfl, o7, o8, hb7⟩
            have HO7 := hide o7
            have HO1c := hide (own_keep HBK.out.own1 (fun k hk => hb7.block k (HBK.out.own1.lt k hk).2))
            have HB7 : Hid (Below w.heap.size w w6) := HBK.out.below.trans (hb7.mono HBK.out.below.size)
            have hF7 : w6.heap[w1.heap.size]? = some (fltO E P) := (hb7.block _ (lt_of_block HBK.out.flt)).trans HBK.out.flt
            obtain ⟨z0, z1, y0, y1⟩ := flt_cells hF7
            have HN1 := hide (own_ty HO1c.out hF7 (by decide))
            have HN7 := hide (own_ty HO7.out hF7 (by decide))
            clear o7 o8 hb7 hF7
            go_wp2_with fail
            refine (same_any _ v7 ws _ _ ws.length _ (ownsRow_setCell_other (a := ⟨w1.heap.size, 1, none⟩) (ownsRow_setCell_other (a := ⟨w1.heap.size, 0, none⟩) HO1c.out HN1.out _) HN1.out _) (ownsRow_setCell_other (a := ⟨w1.heap.size, 1, none⟩) (ownsRow_setCell_other (a := ⟨w1.heap.size, 0, none⟩) HO7.out HN7.out _) HN7.out _) (by omega)).mono ?_
            rintro e w9 ⟨rfl, d, rfl⟩
            go_wp2
            go_ret
            exact ⟨rfl, below_drewN' ((HB7.out.setCell (p := ⟨w1.heap.size, 0, none⟩) HB1.out.size _).setCell (p := ⟨w1.heap.size, 1, none⟩) HB1.out.size _) _⟩
  · have e1 : ((E : Int) != 0) = true := by simp; omega
    clear hnil
    go_enter Try.func6, Try.ntmps6
    go_wp2_with fail
    refine (alive_any w).mono ?_
    rintro e w0 ⟨rfl, hb0⟩
    have HB0 := hide hb0
    clear hb0
    go_wp2_with fail
    refine (play_any mn most L a c _ ((hin.out.on HB0.out).wide HB0.out.size) (by omega) ws rs E P HGO).mono ?_
    rintro e w1 ⟨v1, v2, rfl, o1, o2, hb1⟩
    have HO1 := hide o1
    have HB1 : Hid (Below w.heap.size w w1) := HB0.out.trans (hb1.mono HB0.out.size)
    obtain ⟨a1, k1, hv1⟩ : ∃ a1 k1, v1 = .slice a1 ws.length k1 := by
      rcases o1.2 with ⟨rfl, h0⟩ | ⟨g, cap, cur, rfl, _⟩
      · rw [h0]; exact ⟨_, _, rfl⟩
      · exact ⟨_, _, rfl⟩
    subst hv1
    clear o1 o2 hb1
    go_wp2
    go_ret
    exact ⟨rfl, HB1.out.alloc HB1.out.size _⟩

end Go.Proofs.Ytnoecaapmcidhaa
