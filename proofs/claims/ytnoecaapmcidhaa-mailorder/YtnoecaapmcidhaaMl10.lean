/- MailOrder: the walk of the law. -/
import Derived.Test.YtnoecaapmcidhaaMl9
import Derived.Maps.AppendAt
namespace Go.Proofs.Ytnoecaapmcidhaa.Mb
open Go.RowKit

/-- What holds while what was put, and what was taken, is gathered. -/
structure OrAt (L : List Ml.Op) (G : List Ml.Got) (w : World) (k : Nat) (v v2 : Value) (W : World) : Prop where
  le : k ≤ L.length
  own : W.ownsRow w.heap.size 2 1 v (Ml.puts L G k).length (ints (Ml.puts L G k))
  own2 : W.ownsRow w.heap.size 2 1 v2 (Ml.gots L G k).length (ints (Ml.gots L G k))
  apart : ∀ j, v.ownBlock = some j → v2.ownBlock ≠ some j
  below : Below w.heap.size w W

theorem OrAt.same {L : List Ml.Op} {G : List Ml.Got} {w : World} {k : Nat} {v v2 : Value} {W : World} {o : Ml.Op} {g : Ml.Got} (h : OrAt L G w k v v2 W) (ho : L[k]? = some o) (hg : G[k]? = some g) (h1 : g.ok = false) (ob : Obj) : OrAt L G w (k + 1) v v2 (W.alloc ob) := by
  have e1 : Ml.puts L G (k + 1) = Ml.puts L G k := by rw [Ml.puts_next ho hg, if_neg (by simp [h1])]
  have e2 : Ml.gots L G (k + 1) = Ml.gots L G k := by rw [Ml.gots_next ho hg, if_neg (by simp [h1])]
  exact ⟨(List.getElem?_eq_some_iff.1 ho).1, by rw [e1]; exact h.own.alloc _, by rw [e2]; exact h.own2.alloc _, h.apart, h.below.alloc h.below.size _⟩

theorem OrAt.put {L : List Ml.Op} {G : List Ml.Got} {w : World} {k : Nat} {v v2 v' : Value} {W w3 : World} {o : Ml.Op} {g : Ml.Got} {ob ob2 : Obj} (h : OrAt L G w k v v2 W) (ho : L[k]? = some o) (hg : G[k]? = some g) (h1 : g.ok = true) (h2 : o.put = true)
    (hown : w3.ownsRow w.heap.size 2 1 v' ((Ml.puts L G k).length + 1) (ints (Ml.puts L G k) ++ [.int .i64 o.v])) (hgr : ((W.alloc ob).alloc ob2).grownBy w3 v.ownBlock) (hat : v'.ownBlock = v.ownBlock ∨ v'.ownBlock = some ((W.alloc ob).alloc ob2).heap.size) : OrAt L G w (k + 1) v' v2 w3 := by
  have e1 : Ml.puts L G (k + 1) = Ml.puts L G k ++ [o.v] := by rw [Ml.puts_next ho hg, if_pos ⟨h2, h1⟩]
  have e2 : Ml.gots L G (k + 1) = Ml.gots L G k := by rw [Ml.gots_next ho hg, if_neg (by simp [h2])]
  have hz := h.below.size
  have blk : ∀ j, j < W.heap.size → v.ownBlock ≠ some j → w3.heap[j]? = W.heap[j]? := fun j hj hne => by rw [hgr.block j (by simp; omega) (fun e => hne e.symm), Below.heap_alloc _ _ _ (by simp; omega), Below.heap_alloc _ _ _ hj]
  refine ⟨(List.getElem?_eq_some_iff.1 ho).1, by rw [e1]; simpa using hown, by rw [e2]; exact own_keep h.own2 (fun j hj => blk j (h.own2.lt j hj).2 (fun e => h.apart j e hj)), fun j hj hj2 => ?_, ((h.below.alloc hz _).alloc (by simp; omega) _).grown hgr (by simp; omega) (fun j hj => (h.own.lt j hj).1)⟩
  rcases hat with e | e
  · exact h.apart j (e ▸ hj) hj2
  · rw [e] at hj
    have := (h.own2.lt j hj2).2
    simp at hj
    omega

theorem OrAt.got {L : List Ml.Op} {G : List Ml.Got} {w : World} {k : Nat} {v v2 v' : Value} {W w3 : World} {o : Ml.Op} {g : Ml.Got} {ob ob2 : Obj} (h : OrAt L G w k v v2 W) (ho : L[k]? = some o) (hg : G[k]? = some g) (h1 : g.ok = true) (h2 : o.put = false)
    (hown : w3.ownsRow w.heap.size 2 1 v' ((Ml.gots L G k).length + 1) (ints (Ml.gots L G k) ++ [.int .i64 g.v])) (hgr : ((W.alloc ob).alloc ob2).grownBy w3 v2.ownBlock) (hat : v'.ownBlock = v2.ownBlock ∨ v'.ownBlock = some ((W.alloc ob).alloc ob2).heap.size) : OrAt L G w (k + 1) v v' w3 := by
  have e1 : Ml.puts L G (k + 1) = Ml.puts L G k := by rw [Ml.puts_next ho hg, if_neg (by simp [h2])]
  have e2 : Ml.gots L G (k + 1) = Ml.gots L G k ++ [g.v] := by rw [Ml.gots_next ho hg, if_pos ⟨h2, h1⟩]
  have hz := h.below.size
  have blk : ∀ j, j < W.heap.size → v2.ownBlock ≠ some j → w3.heap[j]? = W.heap[j]? := fun j hj hne => by rw [hgr.block j (by simp; omega) (fun e => hne e.symm), Below.heap_alloc _ _ _ (by simp; omega), Below.heap_alloc _ _ _ hj]
  refine ⟨(List.getElem?_eq_some_iff.1 ho).1, by rw [e1]; exact own_keep h.own (fun j hj => blk j (h.own.lt j hj).2 (h.apart j hj)), by rw [e2]; simpa using hown, fun j hj hj2 => ?_, ((h.below.alloc hz _).alloc (by simp; omega) _).grown hgr (by simp; omega) (fun j hj => (h.own2.lt j hj).1)⟩
  rcases hat with e | e
  · exact h.apart j hj (e ▸ hj2)
  · rw [e] at hj2
    have := (h.own.lt j hj).2
    simp at hj2
    omega

theorem one_news3 (W : World) (o : Obj) (u : Value) (t : TypeId) : ∀ j u', [u][j]? = some u' → ((W.alloc o).alloc (.cells #[u] t)).cell? ((⟨W.heap.size + 1, 0, none⟩ : Addr).add j) = some u' := by simpa using one_news (W.alloc o) u t

theorem op_kept {W w3 : World} {p : Bool} {x : Int} {ob2 : Obj} {r : Option Nat} (h : ((W.alloc (.cells #[.bool p, .int .i64 x] 46)).alloc ob2).grownBy w3 r) (hr : ∀ k, r = some k → k < W.heap.size) : w3.cell? ⟨W.heap.size, 0, none⟩ = some (.bool p) := by
  refine op_cells (x := x) ?_
  rw [h.block _ (by simp; omega) (fun e => by have := hr _ e.symm; omega), Below.heap_alloc _ _ _ (by simp)]
  exact heap_alloc_new W _

/-- An append of one row of the call's own to another, where its guard says yes. -/
theorem wpList_append_twoG {P : Program} {w : World} {ops : Array Oper} {rest : List Oper} {o : Oper} {a : Act} {Q : Exit → Act → World → Prop} (hw : Region.wanted o (yielded ops a.tmps) = true) (s x : Operand) (t : TypeId)
    (ho : o.op = .call { callee := .builtin .append, args := #[s, x], argTypes := #[t, t] })
    (base : Nat) (e : TypeId) (i : TypeInfo) (z : Value) (size bytes : Nat) (ht : P.underlying t = some (.slice e)) (hi : P.info? e = some i) (hz : i.zero = some z)
    (hsize : i.size = size) (hby : i.bytes = bytes) (hzs : z.cells.size = size) (hsz : 0 < size)
    (v : Value) (n : Nat) (xs : List Value) (hs : a.eval s = v) (hown : w.ownsRow base e size v n xs)
    (b2 : Nat) (vx : Value) (m : Nat) (news : List Value) (hx : a.eval x = vx) (hown2 : w.ownsRow b2 e size vx m news) (h1 : ∀ u ∈ news, u.oneCell' = true)
    (h63 : n + m ≤ maxLen) (hbytes : (n + m) * bytes ≤ 140737488355328) (hbase : base ≤ w.heap.size)
    (h : ∀ v' w', w'.ownsRow base e size v' (n + m) (xs ++ news) → w.grownBy w' v.ownBlock → wpList P ops Q rest (a.put o.dst v') w') : wpList P ops Q (o :: rest) a w := by
  have hl := hown2.1
  refine BigFrame.wpList_want hw fun K hK => ?_
  rcases hown2.2 with ⟨rfl, rfl⟩ | ⟨g, cap, cur, rfl, r⟩
  · obtain rfl : news = [] := List.eq_nil_of_length_eq_zero (by simpa using hl)
    have hrun := run_append_owned_none (P := P) (w := w) base t o.type e i size ht hi v n xs hown
    unfold Oper.wp
    simp [execOp, ho, resolve, invoke, builtin, hs, hx, hrun, Result.andThen]
    exact hK _ _ (h v w (by simpa using hown) (World.grownBy.refl _ _))
  · exact wp_append_own w s x t ho base e i z size bytes ht hi hz hsize hby hzs hsz v n xs hs hown ⟨g, 0, none⟩ m cap news hx hl (hown2.cells (g := g) rfl) h1 h63 hbytes hbase (fun v' w' h2 h3 _ => hK _ _ (h v' w' h2 h3))

theorem ints_one (ws : List Int) : ∀ v ∈ ints ws, v.oneCell' = true := by
  intro v hv
  obtain ⟨x, _, rfl⟩ := List.mem_map.1 hv
  rfl


set_option maxRecDepth 100000 in
set_option maxHeartbeats 1000000 in
theorem mailOrder_any (n : Int) (L : List Ml.Op) (a : Option Addr) (c : Nat) (w : World) (hin : Hid (OpsIn w.heap.size w L a)) (hlen : L.length ≤ 8796093022200) :
    Calls Try.prog 8 #[.int .i64 n, .slice a L.length c] w fun e w' => e = .returned (.bool true) ∧ Below w.heap.size w w' := by
  obtain ⟨i0, hi, hz0, hz1, hz2⟩ := info_parts Try.info2
  by_cases hr : n < 1 ∨ 20 < n
  · have HGO : Hid (Ml.play n L = ([], [], 3)) := by unfold Hid Ml.play; rw [if_pos hr]
    clear hr
    go_enter Try.func8, Try.ntmps8
    go_wp2_with fail
    refine (alive_any w).mono ?_
    rintro e w0 ⟨rfl, hb0⟩
    have HB0 := hide hb0
    clear hb0
    go_wp2_with fail
    refine (play_any n L a c _ ((hin.out.on HB0.out).wide HB0.out.size) hlen [] [] 3 HGO).mono ?_
    rintro e w1 ⟨v1, v2, rfl, o1, o2, hb1⟩
    obtain ⟨a1, k1, rfl, r1⟩ := own_gots o1
    have HB1 : Hid (Below w.heap.size w w1) := HB0.out.trans (hb1.mono HB0.out.size)
    clear o1 o2 hb1 r1
    go_wp2
    go_ret
    exact ⟨rfl, HB1.out⟩
  · obtain ⟨m, rfl⟩ : ∃ m : Nat, n = m := ⟨n.toNat, by omega⟩
    obtain ⟨gs, ws, hgs, hws⟩ : ∃ gs ws, gs = (Ml.upto m L L.length).1 ∧ ws = (Ml.upto m L L.length).2 := ⟨_, _, rfl, rfl⟩
    have HGO : Hid (Ml.play m L = (gs, ws, 0)) := by unfold Hid Ml.play; rw [if_neg hr]; simp [hgs, hws]
    have hgl : gs.length = L.length := by rw [hgs, Ml.upto_len _ (Nat.le_refl _)]
    have hwl : ws.length ≤ m := by rw [hws]; exact Ml.upto_most _
    have HORD : Hid (Ml.puts L gs L.length = Ml.gots L gs L.length ++ ws) := by unfold Hid; rw [hgs, hws]; exact Ml.order _ (Nat.le_refl _)
    have hm : m ≤ 20 := by omega
    have e2 : ((gs.length : Int) != (L.length : Int)) = false := by simp; omega
    clear hr hgs hws
    go_enter Try.func8, Try.ntmps8
    go_wp2_with fail
    refine (alive_any w).mono ?_
    rintro e w0 ⟨rfl, hb0⟩
    have HB0 := hide hb0
    clear hb0
    go_wp2_with fail
    refine (play_any m L a c _ ((hin.out.on HB0.out).wide HB0.out.size) hlen gs ws 0 HGO).mono ?_
    rintro e w1 ⟨v1, v2, rfl, o1, o2, hb1⟩
    have HO2 := hide o2
    obtain ⟨a1, k1, rfl, r1⟩ := own_gots o1
    have HO1 := hide o1
    have HB1 : Hid (Below w.heap.size w w1) := HB0.out.trans (hb1.mono HB0.out.size)
    obtain ⟨a2, k2, hv2, _⟩ := own_reads o2
    subst hv2
    have hlt1 := HB1.out.size
    clear o1 o2 hb1 r1
    go_wp2
    go_loopw [8, 9, 33] (fun v v2 i wr => ∃ k : Nat, i = .int .i64 k ∧ OrAt L gs w1 k v v2 wr) (fun _ _ i _ => L.length - (intOf i).toNat)
    case atStart => exact ⟨0, rfl, Nat.zero_le _, World.ownsRow_nil _ _ _ _, World.ownsRow_nil _ _ _ _, by simp [Value.ownBlock], Below.refl _ _⟩
    case round =>
      obtain ⟨k, rfl, hA⟩ := hrel
      have HA := hide hA
      have hk := hA.le
      have hsz := hA.below.size
      have hp1 := Ml.puts_len (L := L) (G := gs) k
      have hp2 := Ml.gots_len (L := L) (G := gs) k
      clear hA
      by_cases hlt : k < L.length
      · obtain ⟨o, ho⟩ : ∃ o, L[k]? = some o := ⟨_, List.getElem?_eq_getElem hlt⟩
        obtain ⟨g, hg⟩ : ∃ g, gs[k]? = some g := ⟨_, List.getElem?_eq_getElem (by omega)⟩
        obtain ⟨b, off, rfl, hbl, c0, c1⟩ := hin.out.on (HB1.out.trans (HA.out.below.mono hlt1)) k o ho
        obtain ⟨_, _, hv1, r1⟩ := own_gots (own_keep HO1.out (fun j hj => HA.out.below.block j (HO1.out.lt j hj).2))
        obtain ⟨b1, hb1, hb1l, x1, x2⟩ := r1 k g hg
        simp only [Value.slice.injEq, true_and] at hv1
        obtain ⟨rfl, rfl⟩ := hv1
        subst hb1
        have HOP := hide ho
        have HGK := hide hg
        have bb0 : (0 : Int) ≤ (k : Int) := by omega
        have bb1 : (k : Int) < (gs.length : Int) := by omega
        clear ho hg r1
        cases hp : o.put with
        | true =>
          have HP := hide hp
          rw [hp] at c0
          clear hp
          cases hok : g.ok with
          | true =>
            have HOK := hide hok
            rw [hok] at x1
            clear hok
            go_wp2_with (first |
              (at_builtin; refine wpList_append_own_at _ rfl _ _ 23 rfl w1.heap.size 2 i0 (.int .i64 0) 1 8 Try.underlying23 hi hz0 hz1 hz2 rfl (by decide) _ _ _ rfl ((HA.out.own.alloc _).alloc _) ⟨wr.heap.size + 1, 0, none⟩ 1 1 [.int .i64 o.v] rfl rfl (one_news3 _ _ _ _) (one_cell1 _) (by unfold maxLen; omega) (by omega) (by simp; omega) ?_; intro v' w5 hown' hgrow _ hat'; have HREL : Hid (OrAt L gs w1 (k + 1) v' u9 w5) := HA.out.put HOP.out HGK.out HOK.out HP.out hown' hgrow hat'; have d0 := op_kept hgrow (fun k hk => (HA.out.own.lt k hk).2); clear hown' hgrow hat')
              )
            go_roundw
            case rel => exact ⟨k + 1, by go_num, HREL.out⟩
            case measure => simp [intOf]; omega
          | false =>
            have HREL : Hid (∀ ob, OrAt L gs w1 (k + 1) u8 u9 (wr.alloc ob)) := fun ob => HA.out.same HOP.out HGK.out hok ob
            rw [hok] at x1
            clear hok
            go_wp2
            go_roundw
            case rel => exact ⟨k + 1, by go_num, HREL.out _⟩
            case measure => simp [intOf]; omega
        | false =>
          have HP := hide hp
          rw [hp] at c0
          clear hp
          cases hok : g.ok with
          | true =>
            have HOK := hide hok
            rw [hok] at x1
            clear hok
            go_wp2_with (first |
              (at_builtin; refine wpList_append_own_at _ rfl _ _ 23 rfl w1.heap.size 2 i0 (.int .i64 0) 1 8 Try.underlying23 hi hz0 hz1 hz2 rfl (by decide) _ _ _ rfl ((HA.out.own2.alloc _).alloc _) ⟨wr.heap.size + 1, 0, none⟩ 1 1 [.int .i64 g.v] rfl rfl (one_news3 _ _ _ _) (one_cell1 _) (by unfold maxLen; omega) (by omega) (by simp; omega) ?_; intro v' w5 hown' hgrow _ hat'; have HREL : Hid (OrAt L gs w1 (k + 1) u8 v' w5) := HA.out.got HOP.out HGK.out HOK.out HP.out hown' hgrow hat'; have d0 := op_kept hgrow (fun k hk => (HA.out.own2.lt k hk).2); clear hown' hgrow hat')
              )
            go_roundw
            case rel => exact ⟨k + 1, by go_num, HREL.out⟩
            case measure => simp [intOf]; omega
          | false =>
            have HREL : Hid (∀ ob, OrAt L gs w1 (k + 1) u8 u9 (wr.alloc ob)) := fun ob => HA.out.same HOP.out HGK.out hok ob
            rw [hok] at x1
            clear hok
            go_wp2
            go_roundw
            case rel => exact ⟨k + 1, by go_num, HREL.out _⟩
            case measure => simp [intOf]; omega
      · obtain rfl : k = L.length := by omega
        have hwi : (ws.length : Int) ≤ (m : Int) := by omega
        have HO2b := hide (own_keep HO2.out (fun j hj => HA.out.below.block j (HO2.out.lt j hj).2))
        go_wp2_with (first | (refine wpList_append_twoG (by rfl) (.tmp 77) (.tmp 78) 23 rfl w1.heap.size 2 i0 (.int .i64 0) 1 8 Try.underlying23 hi hz0 hz1 hz2 rfl (by decide) u9 _ (ints (Ml.gots L gs L.length)) rfl HA.out.own2 w0.heap.size (.slice a2 ws.length k2) ws.length (ints ws) rfl HO2b.out (ints_one ws) (by unfold maxLen; omega) (by omega) hsz ?_; intro v5 w5 h5 g5; have HR1 := hide (own_reads (own_keep HA.out.own (fun j hj => g5.block j (HA.out.own.lt j hj).2 (fun e => HA.out.apart j hj e.symm)))); have HR2 : Hid (RI w5 v5 (Ml.puts L gs L.length)) := (by unfold Hid; rw [HORD.out]; exact own_reads (n := (Ml.gots L gs L.length).length + ws.length) (by simpa [ints] using h5)); have HB5 : Hid (Below w.heap.size w w5) := (HB1.out.trans (HA.out.below.mono hlt1)).grown g5 (by omega) (fun j hj => Nat.le_trans hlt1 (HA.out.own2.lt j hj).1); clear h5 g5) | fail)
        refine (same_any u8 v5 (Ml.puts L gs L.length) _ HR1 HR2 (by omega)).mono ?_
        rintro e w6 ⟨rfl, d, rfl⟩
        go_wp2
        go_ret
        exact ⟨rfl, below_drewN' HB5.out _⟩

end Go.Proofs.Ytnoecaapmcidhaa.Mb
