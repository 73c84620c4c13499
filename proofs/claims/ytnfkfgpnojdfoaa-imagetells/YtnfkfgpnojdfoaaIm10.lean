/- The walk of ImageGuards. -/
import Derived.Test.YtnfkfgpnojdfoaaIm8
import Derived.Test.YtnfkfgpnojdfoaaIm9
import Derived.Test.YtnfkfgpnojdfoaaImG
namespace Go.Proofs.Ytnfkfgpnojdfoaa
open Go.RowKit

theorem Stays.on {B : Nat} {w w' : World} {b : Nat} (h : Stays B w b) (hB : B ≤ w.heap.size) (hb : Below w.heap.size w w') : Stays w'.heap.size w' b ∧ w'.heap[b]? = w.heap[b]? := by
  have hlt : b < w.heap.size := by
    rcases h with h | ⟨cs, t, fr, h, _⟩
    · omega
    · exact lt_of_block h
  exact ⟨.inl (by have := hb.size; omega), hb.block b hlt⟩
theorem IntsIn.on {B : Nat} {w w' : World} {l : List Int} {a : Option Addr} (h : IntsIn B w l a) (hB : B ≤ w.heap.size) (hb : Below w.heap.size w w') : IntsIn w'.heap.size w' l a := fun i x hx => by
  obtain ⟨h1, b, off, e, hs, hc⟩ := h i x hx
  exact ⟨h1, b, off, e, (hs.on hB hb).1, (cell_eq (hs.on hB hb).2 _).trans hc⟩
theorem ModIn.on {B : Nat} {w w' : World} {m : Im.Md} {ab au : Option Addr} (h : ModIn B w m ab au) (hB : B ≤ w.heap.size) (hb : Below w.heap.size w w') : ModIn w'.heap.size w' m ab au := by
  refine ⟨h.few, fun i x hx => ?_, fun i x hx => ?_⟩
  · obtain ⟨h1, h2, b, off, e, hs, c0, c1⟩ := h.boxes i x hx
    have := (hs.on hB hb).2
    exact ⟨h1, h2, b, off, e, (hs.on hB hb).1, (cell_eq this _).trans c0, (cell_eq this _).trans c1⟩
  · obtain ⟨b, off, al, cl, ac, cc, e, hs, hu, c0, c1, c2, c3, c4, c5⟩ := h.units i x hx
    have := (hs.on hB hb).2
    refine ⟨b, off, al, cl, ac, cc, e, (hs.on hB hb).1, ⟨hu.nums, hu.few, hu.locals.on hB hb, fun j y hy => ?_⟩, (cell_eq this _).trans c0, (cell_eq this _).trans c1, (cell_eq this _).trans c2, (cell_eq this _).trans c3, (cell_eq this _).trans c4, (cell_eq this _).trans c5⟩
    obtain ⟨h1, h2, h3, b, off, e, hs, c0, c1, c2⟩ := hu.code j y hy
    have := (hs.on hB hb).2
    exact ⟨h1, h2, h3, b, off, e, (hs.on hB hb).1, (cell_eq this _).trans c0, (cell_eq this _).trans c1, (cell_eq this _).trans c2⟩

/-- The same, where the order is the text's. -/
theorem wpList_append_two {P : Program} {w : World} {ops : Array Oper} {rest : List Oper} {o : Oper} {a : Act} {Q : Exit → Act → World → Prop} (hgd : o.guard = none) (s x : Operand) (t : TypeId)
    (ho : o.op = .call { callee := .builtin .append, args := #[s, x], argTypes := #[t, t] })
    (base : Nat) (e : TypeId) (i : TypeInfo) (z : Value) (size bytes : Nat) (ht : P.underlying t = some (.slice e)) (hi : P.info? e = some i) (hz : i.zero = some z)
    (hsize : i.size = size) (hby : i.bytes = bytes) (hzs : z.cells.size = size) (hsz : 0 < size)
    (v : Value) (n : Nat) (xs : List Value) (hs : a.eval s = v) (hown : w.ownsRow base e size v n xs)
    (b2 : Nat) (vx : Value) (m : Nat) (news : List Value) (hx : a.eval x = vx) (hown2 : w.ownsRow b2 e size vx m news) (h1 : ∀ u ∈ news, u.oneCell' = true)
    (h63 : n + m ≤ maxLen) (hbytes : (n + m) * bytes ≤ 140737488355328) (hbase : base ≤ w.heap.size)
    (h : ∀ v' w', w'.ownsRow base e size v' (n + m) (xs ++ news) → w.grownBy w' v.ownBlock → wpList P ops Q rest (a.put o.dst v') w') : wpList P ops Q (o :: rest) a w := by
  have hl := hown2.1
  rcases hown2.2 with ⟨rfl, rfl⟩ | ⟨g, cap, cur, rfl, r⟩
  · obtain rfl : news = [] := List.eq_nil_of_length_eq_zero (by simpa using hl)
    exact wpList_append_own_none hgd s x t ho base e i size ht hi v n xs hs hown hx (h v w (by simpa using hown) (World.grownBy.refl _ _))
  · exact wpList_append_own w hgd s x t ho base e i z size bytes ht hi hz hsize hby hzs hsz v n xs hs hown ⟨g, 0, none⟩ m cap news hx hl (hown2.cells (g := g) rfl) h1 h63 hbytes hbase (fun v' w' h2 h3 _ => h v' w' h2 h3)

theorem own_empty (X : World) (e : TypeId) {M : Nat} (hM : M ≤ X.heap.size) : (X.alloc (.cells #[] e)).ownsRow M e 1 (.slice (some ⟨X.heap.size, 0, none⟩) 0 0) 0 [] :=
  ⟨rfl, .inr ⟨X.heap.size, 0, #[], rfl, hM, heap_alloc_new X _, Nat.le_refl _, by unfold maxLen; omega, rfl, rfl⟩⟩

theorem bts_one (l : List Nat) : ∀ u ∈ bts l, u.oneCell' = true := by intro u hu; obtain ⟨c, _, rfl⟩ := List.mem_map.1 hu; rfl
theorem own_some {w : World} {B e n : Nat} {v : Value} {xs : List Value} (h : w.ownsRow B e 1 v n xs) (hn : 0 < n) : ∃ g cap cur, v = .slice (some ⟨g, 0, none⟩) n cap ∧ B ≤ g ∧ w.heap[g]? = some (.cells cur e (0, 0)) ∧ n ≤ cap ∧ cap ≤ maxLen ∧ cur.size = cap ∧ cur.toList.take n = xs := by
  rcases h.2 with ⟨_, h0⟩ | ⟨g, cap, cur, rfl, hg, hh, h1, h2, h3, h4⟩
  · omega
  · exact ⟨g, cap, cur, rfl, hg, hh, h1, h2, by simpa using h3, by simpa using h4⟩

theorem cell_row {w : World} {g n : Nat} {cur : Array Value} {t : TypeId} {fr : Nat × Nat} {out : List Nat} (hh : w.heap[g]? = some (.cells cur t fr)) (h4 : cur.toList.take n = bts out) : ∀ (i c : Nat), out[i]? = some c → w.cell? ⟨g, i, none⟩ = some (.int .u8 c) := by
  intro i c hc
  have : (bts out)[i]? = some (.int .u8 c) := by unfold bts; rw [List.getElem?_map, hc]; rfl
  rw [← h4, List.getElem?_take] at this
  split at this
  · simp [World.cell?, hh]; simpa using this
  · simp at this

theorem set_row {w : World} {g : Nat} {cs : List Value} {t : TypeId} (h : w.heap[g]? = some (.cells cs.toArray t (0, 0))) (j : Nat) (v : Value) : (w.setCell ⟨g, j, none⟩ v).heap[g]? = some (.cells (cs.set j v).toArray t (0, 0)) := by
  simp only [World.setCell, Array.getElem?_modify, if_true, h, Option.map_some, List.setIfInBounds_toArray]
  rfl

theorem BIn.drew {w : World} {l : List Nat} {a : Option Addr} (h : BIn w l a) : BIn w.drew l a := h
theorem below_drew' {B : Nat} {a w : World} (h : Below B a w) : Below B a w.drew := h.trans ⟨rfl, rfl, rfl, Nat.le_refl _, fun _ _ => rfl⟩


set_option maxRecDepth 100000 in
set_option maxHeartbeats 2000000 in
theorem guards_any (m : Im.Md) (ab au : Option Addr) (cb cu : Nat) (at' one two : Int) (h64 : Hid (I64 at' ∧ I64 one ∧ I64 two)) (w : World) (hin : Hid (ModIn w.heap.size w m ab au)) :
    Calls Try.prog 5 #[.agg #[.slice ab m.boxes.length cb, .slice au m.units.length cu], .int .i64 at', .int .i64 one, .int .i64 two] w fun e w' => e = .returned (.bool true) ∧ Below w.heap.size w w' := by
  go_enter Try.func5, Try.ntmps5
  go_wp2_with fail
  refine (alive_any _).mono ?_
  rintro e w1 ⟨rfl, hb1⟩
  have HB1 : Hid (Below w.heap.size w w1) := ((Below.refl _ w).alloc (Nat.le_refl _) _).trans (hb1.mono (by simp))
  have hN : w1.heap[w.heap.size]? = some (mdO m ab au cb cu) := (hb1.block _ (by simp)).trans (heap_alloc_new w _)
  obtain ⟨c0, c1⟩ := md_cells hN
  have hsz := HB1.out.size
  have HIN : Hid (ModIn w1.heap.size w1 m ab au) := hin.out.on (Nat.le_refl _) HB1.out
  clear hb1 hN hin
  obtain ⟨out, er, hout⟩ : ∃ out er, Im.bytes m = (out, er) := ⟨_, _, rfl⟩
  have HO := hide hout
  clear hout
  go_wp2_with fail
  refine (bytes_any m ab au cb cu _ HIN out er HO).mono ?_
  rintro e w2 ⟨v, rfl, hown, hb2⟩
  have HB2 : Hid (Below w.heap.size w w2) := HB1.out.trans (hb2.mono hsz)
  have HOW := hide (own_base hown hsz)
  obtain ⟨a, c, rfl⟩ := own_form hown
  clear hown hb2 HB1 c0 c1
  obtain ⟨⟨p1, p2⟩, ⟨p3, p4⟩, p5, p6⟩ := h64.out
  clear h64
  by_cases h0 : er = 0
  · subst h0
    have hbd : out = Im.sealed (Im.body m) ∧ (Im.body m).length ≤ 59998 := by
      have := HO.out
      unfold Im.bytes at this
      split at this
      · rename_i h; exact ⟨(Prod.mk.inj this).1.symm, h⟩
      · exact absurd (Prod.mk.inj this).2 (by decide)
    have hlen : out.length = (Im.body m).length + 2 := by rw [hbd.1]; simp [Im.sealed]
    have hle : out.length ≤ 60000 := by have := hbd.2; omega
    have hge : 2 ≤ out.length := by omega
    have HBD := hide hbd.1
    have HLT : Hid (∀ c ∈ out, c < 256) := by rw [hbd.1]; exact Im.sealed_lt (Im.body_lt m)
    clear hbd HO hlen
    by_cases h1 : at' < 0
    · skip
      go_wp2
      go_ret
      exact ⟨rfl, HB2.out⟩
    by_cases h2 : (out.length : Int) - 2 < at'
    · skip
      go_wp2
      go_ret
      exact ⟨rfl, HB2.out⟩
    by_cases h3 : one < 0
    · skip
      go_wp2
      go_ret
      exact ⟨rfl, HB2.out⟩
    by_cases h4 : 255 < one
    · skip
      go_wp2
      go_ret
      exact ⟨rfl, HB2.out⟩
    by_cases h5 : two < 0
    · skip
      go_wp2
      go_ret
      exact ⟨rfl, HB2.out⟩
    by_cases h6 : 255 < two
    · skip
      go_wp2
      go_ret
      exact ⟨rfl, HB2.out⟩
    obtain ⟨o1, rfl⟩ : ∃ k : Nat, one = k := ⟨one.toNat, by omega⟩
    obtain ⟨o2, rfl⟩ : ∃ k : Nat, two = k := ⟨two.toNat, by omega⟩
    obtain ⟨k, rfl⟩ : ∃ k : Nat, at' = k := ⟨at'.toNat, by omega⟩
    by_cases h7 : ((o1 : Int) + o2 == 0) = true
    · skip
      go_wp2
      go_ret
      exact ⟨rfl, HB2.out⟩
    have h7' : ((o1 : Int) + o2 == 0) = false := by simpa using h7
    have h8 : o1 ≠ 0 ∨ o2 ≠ 0 := by simp at h7; omega
    have H8 := hide h8
    have hk : k + 1 < out.length := by omega
    have q1 : o1 < 256 := by omega
    have q2 : o2 < 256 := by omega
    clear h7 h8 p1 p2 p3 p4 p5 p6 HIN
    have hz2' := HB2.out.size
    obtain ⟨i0, hi, hz0, hz1, hz2⟩ := info_parts Try.info5
    go_wp2_with (at_builtin; refine wpList_append_two rfl _ _ 26 rfl w.heap.size 5 i0 (.int .u8 0) 1 1 Try.underlying26 hi hz0 hz1 hz2 rfl (by decide) _ 0 [] rfl (own_empty _ _ hz2') w.heap.size _ out.length (bts out) rfl (HOW.out.alloc _) (bts_one out) (by unfold maxLen; omega) (by omega) (by simp; omega) ?_; intro v' w3 hown' hgrow)
    have hown3 : w3.ownsRow w.heap.size 5 1 v' out.length (bts out) := by simpa using hown'
    have hgrow' : (w2.alloc (.cells #[] 5)).grownBy w3 (some w2.heap.size) := hgrow
    have HB3 : Hid (Below w.heap.size w w3) := (HB2.out.alloc hz2' _).grown hgrow' (by simp; omega) (fun j hj => by simp only [Option.some.injEq] at hj; omega)
    clear hown' hgrow hgrow'
    obtain ⟨g, cap, cur, hv, hg, hh, g1, g2, g3, g4⟩ := own_some hown3 (by omega)
    subst hv
    clear hown3 HOW
    obtain ⟨x, hx⟩ : ∃ x, out[k]? = some x := ⟨_, List.getElem?_eq_getElem (by omega)⟩
    obtain ⟨y, hy⟩ : ∃ y, out[k + 1]? = some y := ⟨_, List.getElem?_eq_getElem (by omega)⟩
    have hx8 := HLT.out x (List.mem_of_getElem? hx)
    have hy8 := HLT.out y (List.mem_of_getElem? hy)
    have key : ∀ (i c : Nat), out[i]? = some c → w3.cell? ⟨g, i, none⟩ = some (.int .u8 c) := cell_row hh g4
    have cx := key k x hx
    have cy := key (k + 1) y hy
    have f0 : w3.frozen? ⟨g, k, none⟩ = false := by simp [World.frozen?, hh]
    have f1 : w3.frozen? ⟨g, k + 1, none⟩ = false := by simp [World.frozen?, hh]
    have d1 : IntKind.u8.wrap (o1 : Int) = (o1 : Int) := by rw [wrap_u8]; omega
    have d2 : IntKind.u8.wrap (o2 : Int) = (o2 : Int) := by rw [wrap_u8]; omega
    obtain ⟨x1, hx1⟩ : ∃ x1, x1 = x ^^^ o1 := ⟨_, rfl⟩
    obtain ⟨y1, hy1⟩ : ∃ y1, y1 = y ^^^ o2 := ⟨_, rfl⟩
    have d3 : bits .xor .u8 (x : Int) (o1 : Int) = (x1 : Int) := by rw [hx1]; exact u8_xor_nat _ _ hx8 q1
    have d4 : bits .xor .u8 (y : Int) (o2 : Int) = (y1 : Int) := by rw [hy1]; exact u8_xor_nat _ _ hy8 q2
    have HX := hide hx
    have HY := hide hy
    have HX1 := hide hx1
    have HY1 := hide hy1
    have HH := hide hh
    have HG4 := hide g4
    clear key hx hy hx1 hy1 hh g4
    obtain ⟨p, x', y', hp, hsum⟩ : ∃ p x' y', (out.set k x1).set (k + 1) y1 = p ++ [x', y'] ∧ Im.sum p ≠ x' * 256 + y' := by
      have hx2 := HX.out
      have hy2 := HY.out
      rw [HX1.out, HY1.out, HBD.out]
      rw [HBD.out] at hx2 hy2
      exact Im.guarded (Im.body_lt m) hx2 hy2 q1 q2 H8.out
    have hpl : p.length + 2 = out.length := by
      have := congrArg List.length hp
      simp at this
      omega
    have hlt2 : ∀ c ∈ p ++ [x', y'], c < 256 := by
      rw [← hp]
      intro c hc
      rcases List.mem_or_eq_of_mem_set hc with hc | rfl
      · rcases List.mem_or_eq_of_mem_set hc with hc | rfl
        · exact HLT.out c hc
        · rw [HX1.out]; exact Nat.xor_lt_two_pow (n := 8) hx8 q1
      · rw [HY1.out]; exact Nat.xor_lt_two_pow (n := 8) hy8 q2
    have HBN : Hid (BIn ((w3.setCell ⟨g, k, none⟩ (.int .u8 x1)).setCell ⟨g, k + 1, none⟩ (.int .u8 y1)) (p ++ [x', y']) (some ⟨g, 0, none⟩)) := by
      have e1 : w3.heap[g]? = some (.cells cur.toList.toArray 5 (0, 0)) := HH.out
      have e2 := set_row (set_row e1 k (.int .u8 x1)) (k + 1) (.int .u8 y1)
      have e3 : (((cur.toList.set k (.int .u8 x1)).set (k + 1) (.int .u8 y1)).toArray.toList).take out.length = bts (p ++ [x', y']) := by
        rw [← hp]
        show ((cur.toList.set k (.int .u8 x1)).set (k + 1) (.int .u8 y1)).take out.length = _
        rw [List.take_set, List.take_set, HG4.out]
        unfold bts
        rw [List.map_set, List.map_set]
      intro i c hc
      exact ⟨hlt2 c (List.mem_of_getElem? hc), g, 0, rfl, by rw [Nat.zero_add]; exact cell_row e2 e3 i c hc⟩
    have HB4 : Hid (Below w.heap.size w ((w3.setCell ⟨g, k, none⟩ (.int .u8 x1)).setCell ⟨g, k + 1, none⟩ (.int .u8 y1))) := (HB3.out.setCell (p := ⟨g, k, none⟩) hg _).setCell (p := ⟨g, k + 1, none⟩) hg _
    have HSUM := hide hsum
    have HPL := hide hpl
    go_wp2
    go_region
    clear cx cy f0 f1 HH HG4 hp hpl hsum
    generalize hW : (w3.setCell ⟨g, k, none⟩ (.int .u8 x1)).setCell ⟨g, k + 1, none⟩ (.int .u8 y1) = W at *
    clear hW
    rw [← HPL.out]
    go_wp2_with fail
    refine (parse_fit p x' y' (some ⟨g, 0, none⟩) cap _ (hide HBN.out.drew) (by have := HPL.out; omega) (by have := HPL.out; omega) (Im.sum p) (hide rfl) HSUM.out).mono ?_
    rintro e w5 ⟨rfl, hb5⟩
    have HB5 : Hid (Below w.heap.size w w5) := (below_drew' HB4.out).trans (hb5.mono HB4.out.size)
    have hsz5 := HB5.out.size
    clear hb5
    go_wp2
    go_ret
    exact ⟨rfl, HB5.out.alloc hsz5 _⟩
  · have e0 : (er != 0) = true := by simpa using h0
    go_wp2
    go_ret
    exact ⟨rfl, HB2.out⟩

end Go.Proofs.Ytnfkfgpnojdfoaa
