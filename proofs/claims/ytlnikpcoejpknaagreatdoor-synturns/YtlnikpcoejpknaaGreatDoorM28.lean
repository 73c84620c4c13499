/- Definitions in new memory. -/
import Derived.Test.YtlnikpcoejpknaaGreatDoorM27
namespace Go.Proofs.YtlnikpcoejpknaaGreatDoor
open Go.RowKit

def DfQ (Q : Nat → Prop) (w : World) (d : Sy.Df) (pa ba : Option Addr) : Prop :=
  d.name.size ≤ 6000 ∧ d.ty.gen.size ≤ 6000 ∧ d.takes.gen.size ≤ 6000 ∧ PmsQ Q w d.params pa ∧ d.body.length ≤ 6000 ∧ ∃ h, RowQ Q w (StQ Q w h) d.body ba
theorem DfQ.keep {Q Q' : Nat → Prop} {w w' : World} (hk : ∀ b, Q b → Q' b ∧ w'.heap[b]? = w.heap[b]?) {d : Sy.Df} {pa ba : Option Addr} (h : DfQ Q w d pa ba) : DfQ Q' w' d pa ba :=
  ⟨h.1, h.2.1, h.2.2.1, h.2.2.2.1.keep hk, h.2.2.2.2.1, h.2.2.2.2.2.elim fun n hn => ⟨n, RowQ.keep hk (fun _ _ _ _ hx => StQ.keep hk hx) hn⟩⟩
theorem DfQ.toIn {Q : Nat → Prop} {w : World} {B : Nat} (hQ : ∀ b, Q b → b < B) {d : Sy.Df} {pa ba : Option Addr} (h : DfQ Q w d pa ba) : DfIn B w d pa ba :=
  ⟨by have := h.1; unfold maxLen; omega, by have := h.2.1; unfold maxLen; omega, by have := h.2.2.1; unfold maxLen; omega, h.2.2.2.1.toIn hQ, h.2.2.2.2.2.elim fun n hn => ⟨n, by have := h.2.2.2.2.1; unfold maxLen; omega, hn.toIn hQ (fun _ _ _ _ hx => StQ.toIn hQ hx)⟩⟩
theorem PmsQ.nil (Q : Nat → Prop) (w : World) (a : Option Addr) : PmsQ Q w [] a := ⟨Nat.zero_le _, fun i p hi => by simp at hi⟩

abbrev dffV (d : Sy.Df) (pa : Option Addr) (pc : Nat) (ba : Option Addr) (bc : Nat) : Value :=
  .agg #[.int .i64 d.kind, .string d.name, .int .i64 d.ty.kind, .string d.ty.gen, .int .i64 d.takes.kind, .string d.takes.gen, .int .i64 d.cap, .slice pa d.params.length pc, .slice ba d.body.length bc]
def DfV (w : World) : World → Sy.Df → Value → Prop := fun w' d v => ∃ pa pc ba bc, v = dffV d pa pc ba bc ∧ DfQ (Mad w w') w' d pa ba

abbrev dffO (k : Int) (s : ByteArray) (tk : Int) (tg : ByteArray) (uk : Int) (ug : ByteArray) (c : Int) (pv bv : Value) : Obj := .cells #[.int .i64 k, .string s, .int .i64 tk, .string tg, .int .i64 uk, .string ug, .int .i64 c, pv, bv] 57 (0, 0)
abbrev ZDf : Obj := dffO 0 ⟨#[]⟩ 0 ⟨#[]⟩ 0 ⟨#[]⟩ 0 (.slice none 0 0) (.slice none 0 0)

theorem df_cells {w : World} {N : Nat} {k tk uk c : Int} {s tg ug : ByteArray} {pv bv : Value} (h : w.heap[N]? = some (dffO k s tk tg uk ug c pv bv)) :
    (w.cell? ⟨N, 0, none⟩ = some (.int .i64 k) ∧ w.cell? ⟨N, 1, none⟩ = some (.string s) ∧ w.cell? ⟨N, 2, none⟩ = some (.int .i64 tk) ∧ w.cell? ⟨N, 3, none⟩ = some (.string tg) ∧ w.cell? ⟨N, 4, none⟩ = some (.int .i64 uk) ∧ w.cell? ⟨N, 5, none⟩ = some (.string ug) ∧ w.cell? ⟨N, 6, none⟩ = some (.int .i64 c) ∧ w.cell? ⟨N, 7, none⟩ = some pv ∧ w.cell? ⟨N, 8, none⟩ = some bv) ∧
    w.frozen? ⟨N, 0, none⟩ = false ∧ w.frozen? ⟨N, 1, none⟩ = false ∧ w.frozen? ⟨N, 2, none⟩ = false ∧ w.frozen? ⟨N, 3, none⟩ = false ∧ w.frozen? ⟨N, 4, none⟩ = false ∧ w.frozen? ⟨N, 5, none⟩ = false ∧ w.frozen? ⟨N, 6, none⟩ = false ∧ w.frozen? ⟨N, 7, none⟩ = false ∧ w.frozen? ⟨N, 8, none⟩ = false := by
  simp [World.cell?, World.frozen?, h]

section
variable {u : World} {S : Nat} {k tk uk c : Int} {s tg ug : ByteArray} {pv bv : Value}
theorem df_set2 (h : u.heap[S]? = some (dffO k s tk tg uk ug c pv bv)) (tk' : Int) (tg' : ByteArray) : ((u.setCell ⟨S, 2, none⟩ (.int .i64 tk')).setCell ⟨S, 3, none⟩ (.string tg')).heap[S]? = some (dffO k s tk' tg' uk ug c pv bv) := by
  simp only [World.setCell, Array.getElem?_modify, if_true, h, Option.map_some]
  rfl
theorem df_set4 (h : u.heap[S]? = some (dffO k s tk tg uk ug c pv bv)) (uk' : Int) (ug' : ByteArray) : ((u.setCell ⟨S, 4, none⟩ (.int .i64 uk')).setCell ⟨S, 5, none⟩ (.string ug')).heap[S]? = some (dffO k s tk tg uk' ug' c pv bv) := by
  simp only [World.setCell, Array.getElem?_modify, if_true, h, Option.map_some]
  rfl
theorem df_set6 (h : u.heap[S]? = some (dffO k s tk tg uk ug c pv bv)) (c' : Int) : (u.setCell ⟨S, 6, none⟩ (.int .i64 c')).heap[S]? = some (dffO k s tk tg uk ug c' pv bv) := by
  simp only [World.setCell, Array.getElem?_modify, if_true, h, Option.map_some]
  rfl
theorem df_set7 (h : u.heap[S]? = some (dffO k s tk tg uk ug c pv bv)) (v : Value) : (u.setCell ⟨S, 7, none⟩ v).heap[S]? = some (dffO k s tk tg uk ug c v bv) := by
  simp only [World.setCell, Array.getElem?_modify, if_true, h, Option.map_some]
  rfl
theorem df_set8 (h : u.heap[S]? = some (dffO k s tk tg uk ug c pv bv)) (v : Value) : (u.setCell ⟨S, 8, none⟩ v).heap[S]? = some (dffO k s tk tg uk ug c pv v) := by
  simp only [World.setCell, Array.getElem?_modify, if_true, h, Option.map_some]
  rfl
end

/-- Nine cells of a block are set. -/
abbrev nine (u : World) (N : Nat) (v0 v1 v2 v3 v4 v5 v6 v7 v8 : Value) : World := (eight u N v0 v1 v2 v3 v4 v5 v6 v7).setCell ⟨N, 8, none⟩ v8
theorem nine_far {u : World} {N k : Nat} {v0 v1 v2 v3 v4 v5 v6 v7 v8 : Value} (hk : k ≠ N) : (nine u N v0 v1 v2 v3 v4 v5 v6 v7 v8).heap[k]? = u.heap[k]? := (Below.heap_setCell _ _ _ _ hk).trans (eight_far hk)
theorem nine_size {u : World} {N : Nat} {v0 v1 v2 v3 v4 v5 v6 v7 v8 : Value} : (nine u N v0 v1 v2 v3 v4 v5 v6 v7 v8).heap.size = u.heap.size := (World.setCell_size _ _ _).trans eight_size

/-- The end of each that answers a definition. -/
theorem df_end {E : Env} (G : Good E) {w u : World} {p q : Nat} {op : Int} {d : Sy.Df} {pa ba : Option Addr} {pc bc : Nat} {r : Res Sy.Df} (h : Rdy E w p op) (hg : w.grownBy u (some E.R)) (hd : Rdy E u q op) (hr : r = .ok (q, d)) (hQ : DfQ (fun b => w.heap.size < b ∧ b < u.heap.size) u d pa ba) :
    Ends E op w r (DfV w) (.returned (dffV d pa pc ba bc)) (nine u w.heap.size (.int .i64 d.kind) (.string d.name) (.int .i64 d.ty.kind) (.string d.ty.gen) (.int .i64 d.takes.kind) (.string d.takes.gen) (.int .i64 d.cap) (.slice pa d.params.length pc) (.slice ba d.body.length bc)) := by
  have hg2 := grown_farS hg (u' := nine u w.heap.size (.int .i64 d.kind) (.string d.name) (.int .i64 d.ty.kind) (.string d.ty.gen) (.int .i64 d.takes.kind) (.string d.takes.gen) (.int .i64 d.cap) (.slice pa d.params.length pc) (.slice ba d.body.length bc)) ((set_os _ _ _).trans eight_os) ((set_tape _ _ _).trans eight_tape) ((set_output _ _ _).trans eight_output) nine_size (Nat.le_refl _) (fun k hk => nine_far hk)
  refine ⟨hg2, ?_⟩
  rw [hr]
  exact ⟨⟨_, rfl, pa, pc, ba, bc, rfl, hQ.keep (fun b hb => ⟨⟨by omega, by rw [nine_size]; exact hb.2⟩, nine_far (by omega)⟩)⟩, Rdy.far h G hd hg2 (Nat.le_refl _) (fun k hk => nine_far hk)⟩

/-- A definition's pieces, where all lies as it did. -/
theorem PmsQ.later {N : Nat} {w3 u : World} {a b : Nat} {l : List Sy.Pm} {pa : Option Addr} (h : PmsQ (fun j => a ≤ j ∧ j < b) w3 l pa) (hk : Kept a b w3 u) (hN : N < a) (hb : b ≤ u.heap.size) : PmsQ (fun j => N < j ∧ j < u.heap.size) u l pa :=
  h.keep (fun j hj => ⟨⟨by omega, by omega⟩, hk j hj.1 hj.2⟩)
theorem RowQ.later {N n : Nat} {w3 u : World} {a b : Nat} {l : List Sy.St} {pa : Option Addr} (h : RowQ (fun j => a ≤ j ∧ j < b) w3 (StQ (fun j => a ≤ j ∧ j < b) w3 n) l pa) (hk : Kept a b w3 u) (hN : N < a) (hb : b ≤ u.heap.size) : RowQ (fun j => N < j ∧ j < u.heap.size) u (StQ (fun j => N < j ∧ j < u.heap.size) u n) l pa :=
  have h2 : ∀ j, (a ≤ j ∧ j < b) → (N < j ∧ j < u.heap.size) ∧ u.heap[j]? = w3.heap[j]? := fun j hj => ⟨⟨by omega, by omega⟩, hk j hj.1 hj.2⟩
  RowQ.keep h2 (fun _ _ _ _ hx => StQ.keep h2 hx) h

def CBd (E : Env) (op : Int) : Prop := ∀ (p : Nat) (r : Res (List Sy.St)) (w : World), Hid (Rdy E w p op) → p ≤ E.l.length → Hid (r = Rp.body E.l E.en 200 p) →
  Calls Tryz.prog 74 #[.pointer (some ⟨E.R, 0, none⟩)] w fun e w' => Ends E op w r (BdV w) e w'
theorem bd_f (E : Env) (G : Good E) : CBd E 0 := body_f E G 200 (Nat.le_refl _)

def CDf (E : Env) (op : Int) (f : FuncId) (R : Nat → Res Sy.Df) : Prop := ∀ (p : Nat) (r : Res Sy.Df) (w : World), Hid (Rdy E w p op) → p ≤ E.l.length → Hid (r = R p) →
  Calls Tryz.prog f #[.pointer (some ⟨E.R, 0, none⟩)] w fun e w' => Ends E op w r (DfV w) e w'

end Go.Proofs.YtlnikpcoejpknaaGreatDoor

/- The walks of box, function and generator (laid by tools/mkdef.py). -/
namespace Go.Proofs.YtlnikpcoejpknaaGreatDoor
open Go.RowKit


set_option maxRecDepth 100000 in
set_option maxHeartbeats 4000000 in
theorem box_f (E : Env) (G : Good E) (op : Int) : CDf E op 69 (Rp.box E.l E.en) := by
  intro p r w h hp hr
  have hR := h.out.lt
  have HE0 : Hid (r = Rp.box E.l E.en p) := hr
  go_enter Tryz.func69, Tryz.ntmps69
  have HG0 : Hid (w.grownBy (w.alloc ZDf) (some E.R)) := grown_alloc (grown_bel (Below.refl _ w)) _
  have HD0 : Hid (Rdy E (w.alloc ZDf) p op) := h.out.alloc G _
  have HZ0 : Hid ((w.alloc ZDf).heap[w.heap.size]? = some ZDf) := heap_alloc_new w ZDf
  obtain ⟨r1, hr1⟩ : ∃ r1, r1 = Rp.want E.l E.en ⟨#[98, 111, 120]⟩ p := ⟨_, rfl⟩
  have HR1 := hide2 hr1
  have HE1 : Hid (r = Rp.andThen r1 fun q1 _ => Rp.andThen (Rp.name E.l E.en q1) fun q2 s => Rp.andThen (Rp.typ E.l E.en q2) fun q3 t => Rp.andThen (Rp.places E.l E.en q3) fun q4 n => Rp.andThen (Rp.want E.l E.en ⟨#[59]⟩ q4) fun q5 _ => .ok (q5, ⟨1, s, t, Rp.T0, n, [], []⟩)) := by rw [HE0.out, hr1]; rfl
  have HA1 : Hid (∀ q x, r1 = .ok (q, x) → q ≤ E.l.length) := fun q x hx => (Rp.want_adv E.l E.en _ p q x hp (by rw [← hr1, hx])).2
  clear hr1
  go_wp2_with fail
  refine (want_f E G p _ ⟨#[98, 111, 120]⟩ r1 _ HD0 hp HR1).mono ?_
  rintro e w1 ⟨hg1, hf1⟩
  have HG1 : Hid (w.grownBy w1 (some E.R)) := grown_tr HG0.out hg1
  have hs1 := hg1.size
  (try simp only [asz] at hs1)
  (try simp only [World.setCell_size] at hs1)
  have HZ1 : Hid (w1.heap[w.heap.size]? = some ZDf) := kept_on hg1 (by omega) HZ0.out
  clear hg1
  cases r1 with
  | error er =>
    obtain ⟨e1, e2⟩ := er
    obtain ⟨rfl, hd1⟩ := hf1
    have HD1 := hide2 hd1
    have HRr : Hid (r = .error (e1, e2)) := HE1.out
    clear hd1
    go_wp2
    exact ⟨rfl, HG1.out, by rw [HRr.out]; exact ⟨rfl, HD1.out⟩⟩
  | ok qx =>
    obtain ⟨q1, u1⟩ := qx
    obtain ⟨⟨v, rfl, rfl⟩, hd1⟩ := hf1
    have hq1 : q1 ≤ E.l.length := HA1.out q1 u1 rfl
    have HD1 := hide2 hd1
    clear hd1
    obtain ⟨r2, hr2⟩ : ∃ r2, r2 = Rp.name E.l E.en q1 := ⟨_, rfl⟩
    have HR2 := hide2 hr2
    have HE2 : Hid (r = Rp.andThen r2 fun q2 s => Rp.andThen (Rp.typ E.l E.en q2) fun q3 t => Rp.andThen (Rp.places E.l E.en q3) fun q4 n => Rp.andThen (Rp.want E.l E.en ⟨#[59]⟩ q4) fun q5 _ => .ok (q5, ⟨1, s, t, Rp.T0, n, [], []⟩)) := by rw [HE1.out, hr2]; rfl
    have HA2 : Hid (∀ q x, r2 = .ok (q, x) → q ≤ E.l.length) := fun q x hx => (Rp.name_adv E.l E.en q1 q x hq1 (by rw [← hr2, hx])).2
    clear hr2
    go_wp2_with fail
    refine (name_f E G q1 _ r2 _ HD1 hq1 HR2).mono ?_
    rintro e w2 ⟨hg2, hf2⟩
    have HG2 : Hid (w.grownBy w2 (some E.R)) := grown_tr HG1.out hg2
    have hs2 := hg2.size
    (try simp only [asz] at hs2)
    (try simp only [World.setCell_size] at hs2)
    have HZ2 : Hid (w2.heap[w.heap.size]? = some ZDf) := kept_on hg2 (by omega) HZ1.out
    clear hg2
    cases r2 with
    | error er =>
      obtain ⟨e1, e2⟩ := er
      obtain ⟨rfl, hd2⟩ := hf2
      have HD2 := hide2 hd2
      have HRr : Hid (r = .error (e1, e2)) := HE2.out
      clear hd2
      go_wp2
      exact ⟨rfl, HG2.out, by rw [HRr.out]; exact ⟨rfl, HD2.out⟩⟩
    | ok qx =>
      obtain ⟨q2, s⟩ := qx
      obtain ⟨⟨v, rfl, rfl, hs⟩, hd2⟩ := hf2
      have hq2 : q2 ≤ E.l.length := HA2.out q2 s rfl
      have hwS : w.heap.size < w2.heap.size := lt_of_block HZ2.out
      have HDT2 : Hid (Rdy E (w2.alloc (dffO 1 s 0 ⟨#[]⟩ 0 ⟨#[]⟩ 0 (.slice none 0 0) (.slice none 0 0))) q2 op) := hd2.alloc G _
      have HGT2 : Hid (w.grownBy (w2.alloc (dffO 1 s 0 ⟨#[]⟩ 0 ⟨#[]⟩ 0 (.slice none 0 0) (.slice none 0 0))) (some E.R)) := grown_alloc HG2.out _
      have HZT2 : Hid ((w2.alloc (dffO 1 s 0 ⟨#[]⟩ 0 ⟨#[]⟩ 0 (.slice none 0 0) (.slice none 0 0))).heap[w.heap.size]? = some ZDf) := (Below.heap_alloc _ _ _ hwS).trans HZ2.out
      have HST2 : Hid ((w2.alloc (dffO 1 s 0 ⟨#[]⟩ 0 ⟨#[]⟩ 0 (.slice none 0 0) (.slice none 0 0))).heap[w2.heap.size]? = some (dffO 1 s 0 ⟨#[]⟩ 0 ⟨#[]⟩ 0 (.slice none 0 0) (.slice none 0 0))) := heap_alloc_new w2 _
      clear hd2
      obtain ⟨r3, hr3⟩ : ∃ r3, r3 = Rp.typ E.l E.en q2 := ⟨_, rfl⟩
      have HR3 := hide2 hr3
      have HE3 : Hid (r = Rp.andThen r3 fun q3 t => Rp.andThen (Rp.places E.l E.en q3) fun q4 n => Rp.andThen (Rp.want E.l E.en ⟨#[59]⟩ q4) fun q5 _ => .ok (q5, ⟨1, s, t, Rp.T0, n, [], []⟩)) := by rw [HE2.out, hr3]; rfl
      have HA3 : Hid (∀ q x, r3 = .ok (q, x) → q ≤ E.l.length) := fun q x hx => (Rp.typ_adv E.l E.en q2 q x hq2 (by rw [← hr3, hx])).2
      clear hr3
      go_wp2_with fail
      refine (typ_f E G q2 _ r3 _ HDT2 hq2 HR3).mono ?_
      rintro e w3 ⟨hg3, hf3⟩
      have HG3 : Hid (w.grownBy w3 (some E.R)) := grown_tr HGT2.out hg3
      have hs3 := hg3.size
      (try simp only [asz] at hs3)
      (try simp only [World.setCell_size] at hs3)
      have HZ3 : Hid (w3.heap[w.heap.size]? = some ZDf) := kept_on hg3 (by omega) HZT2.out
      have HS3 : Hid (w3.heap[w2.heap.size]? = some (dffO 1 s 0 ⟨#[]⟩ 0 ⟨#[]⟩ 0 (.slice none 0 0) (.slice none 0 0))) := kept_on hg3 (by omega) HST2.out
      clear hg3
      cases r3 with
      | error er =>
        obtain ⟨e1, e2⟩ := er
        obtain ⟨rfl, hd3⟩ := hf3
        have HD3 := hide2 hd3
        have HRr : Hid (r = .error (e1, e2)) := HE3.out
        clear hd3
        go_wp2
        exact ⟨rfl, HG3.out, by rw [HRr.out]; exact ⟨rfl, HD3.out⟩⟩
      | ok qx =>
        obtain ⟨q3, t⟩ := qx
        obtain ⟨⟨v, rfl, rfl, hzt⟩, hd3⟩ := hf3
        have hq3 : q3 ≤ E.l.length := HA3.out q3 t rfl
        have HGT3 : Hid (w.grownBy ((w3.setCell ⟨w2.heap.size, 2, none⟩ (.int .i64 t.kind)).setCell ⟨w2.heap.size, 3, none⟩ (.string t.gen)) (some E.R)) := grown_set' (grown_set' (HG3.out) (Nat.le_of_lt hwS) _) (Nat.le_of_lt hwS) _
        have HDT3 : Hid (Rdy E ((w3.setCell ⟨w2.heap.size, 2, none⟩ (.int .i64 t.kind)).setCell ⟨w2.heap.size, 3, none⟩ (.string t.gen)) q3 op) := Rdy.set h.out (Rdy.set h.out (hd3) G (HG3.out) (a := ⟨w2.heap.size, 2, none⟩) (Nat.le_of_lt hwS) _) G (grown_set' (HG3.out) (Nat.le_of_lt hwS) _) (a := ⟨w2.heap.size, 3, none⟩) (Nat.le_of_lt hwS) _
        have HZT3 : Hid (((w3.setCell ⟨w2.heap.size, 2, none⟩ (.int .i64 t.kind)).setCell ⟨w2.heap.size, 3, none⟩ (.string t.gen)).heap[w.heap.size]? = some ZDf) := (Below.heap_setCell _ ⟨w2.heap.size, 3, none⟩ _ _ (by show w.heap.size ≠ w2.heap.size; omega)).trans ((Below.heap_setCell _ ⟨w2.heap.size, 2, none⟩ _ _ (by show w.heap.size ≠ w2.heap.size; omega)).trans (HZ3.out))
        have HST3 : Hid (((w3.setCell ⟨w2.heap.size, 2, none⟩ (.int .i64 t.kind)).setCell ⟨w2.heap.size, 3, none⟩ (.string t.gen)).heap[w2.heap.size]? = some (dffO 1 s t.kind t.gen 0 ⟨#[]⟩ 0 (.slice none 0 0) (.slice none 0 0))) := df_set2 HS3.out t.kind t.gen
        obtain ⟨⟨x0, x1, x2, x3, x4, x5, x6, x7, x8⟩, f0, f1, f2, f3, f4, f5, f6, f7, f8⟩ := df_cells HS3.out
        clear hd3
        obtain ⟨r4, hr4⟩ : ∃ r4, r4 = Rp.places E.l E.en q3 := ⟨_, rfl⟩
        have HR4 := hide2 hr4
        have HE4 : Hid (r = Rp.andThen r4 fun q4 n => Rp.andThen (Rp.want E.l E.en ⟨#[59]⟩ q4) fun q5 _ => .ok (q5, ⟨1, s, t, Rp.T0, n, [], []⟩)) := by rw [HE3.out, hr4]; rfl
        have HA4 : Hid (∀ q x, r4 = .ok (q, x) → q ≤ E.l.length) := fun q x hx => (Rp.places_adv E.l E.en q3 q x hq3 (by rw [← hr4, hx])).2
        clear hr4
        go_wp2_with fail
        refine (places_f E G q3 _ r4 _ HDT3 hq3 HR4).mono ?_
        rintro e w4 ⟨hg4, hf4⟩
        have HG4 : Hid (w.grownBy w4 (some E.R)) := grown_tr HGT3.out hg4
        have hs4 := hg4.size
        (try simp only [asz] at hs4)
        (try simp only [World.setCell_size] at hs4)
        have HZ4 : Hid (w4.heap[w.heap.size]? = some ZDf) := kept_on hg4 (by omega) HZT3.out
        have HS4 : Hid (w4.heap[w2.heap.size]? = some (dffO 1 s t.kind t.gen 0 ⟨#[]⟩ 0 (.slice none 0 0) (.slice none 0 0))) := kept_on hg4 (by omega) HST3.out
        clear hg4
        cases r4 with
        | error er =>
          obtain ⟨e1, e2⟩ := er
          obtain ⟨rfl, hd4⟩ := hf4
          have HD4 := hide2 hd4
          have HRr : Hid (r = .error (e1, e2)) := HE4.out
          clear hd4
          go_wp2
          exact ⟨rfl, HG4.out, by rw [HRr.out]; exact ⟨rfl, HD4.out⟩⟩
        | ok qx =>
          obtain ⟨q4, n⟩ := qx
          obtain ⟨⟨v, rfl, rfl⟩, hd4⟩ := hf4
          have hq4 : q4 ≤ E.l.length := HA4.out q4 n rfl
          have HGT4 : Hid (w.grownBy (w4.setCell ⟨w2.heap.size, 6, none⟩ (.int .i64 n)) (some E.R)) := grown_set' (HG4.out) (Nat.le_of_lt hwS) _
          have HDT4 : Hid (Rdy E (w4.setCell ⟨w2.heap.size, 6, none⟩ (.int .i64 n)) q4 op) := Rdy.set h.out (hd4) G (HG4.out) (a := ⟨w2.heap.size, 6, none⟩) (Nat.le_of_lt hwS) _
          have HZT4 : Hid ((w4.setCell ⟨w2.heap.size, 6, none⟩ (.int .i64 n)).heap[w.heap.size]? = some ZDf) := (Below.heap_setCell _ ⟨w2.heap.size, 6, none⟩ _ _ (by show w.heap.size ≠ w2.heap.size; omega)).trans (HZ4.out)
          have HST4 : Hid ((w4.setCell ⟨w2.heap.size, 6, none⟩ (.int .i64 n)).heap[w2.heap.size]? = some (dffO 1 s t.kind t.gen 0 ⟨#[]⟩ n (.slice none 0 0) (.slice none 0 0))) := df_set6 HS4.out n
          obtain ⟨⟨x0, x1, x2, x3, x4, x5, x6, x7, x8⟩, f0, f1, f2, f3, f4, f5, f6, f7, f8⟩ := df_cells HS4.out
          clear hd4
          obtain ⟨r5, hr5⟩ : ∃ r5, r5 = Rp.want E.l E.en ⟨#[59]⟩ q4 := ⟨_, rfl⟩
          have HR5 := hide2 hr5
          have HE5 : Hid (r = Rp.andThen r5 fun q5 _ => .ok (q5, ⟨1, s, t, Rp.T0, n, [], []⟩)) := by rw [HE4.out, hr5]; rfl
          have HA5 : Hid (∀ q x, r5 = .ok (q, x) → q ≤ E.l.length) := fun q x hx => (Rp.want_adv E.l E.en _ q4 q x hq4 (by rw [← hr5, hx])).2
          clear hr5
          go_wp2_with fail
          refine (want_f E G q4 _ ⟨#[59]⟩ r5 _ HDT4 hq4 HR5).mono ?_
          rintro e w5 ⟨hg5, hf5⟩
          have HG5 : Hid (w.grownBy w5 (some E.R)) := grown_tr HGT4.out hg5
          have hs5 := hg5.size
          (try simp only [asz] at hs5)
          (try simp only [World.setCell_size] at hs5)
          have HZ5 : Hid (w5.heap[w.heap.size]? = some ZDf) := kept_on hg5 (by omega) HZT4.out
          have HS5 : Hid (w5.heap[w2.heap.size]? = some (dffO 1 s t.kind t.gen 0 ⟨#[]⟩ n (.slice none 0 0) (.slice none 0 0))) := kept_on hg5 (by omega) HST4.out
          clear hg5
          cases r5 with
          | error er =>
            obtain ⟨e1, e2⟩ := er
            obtain ⟨rfl, hd5⟩ := hf5
            have HD5 := hide2 hd5
            have HRr : Hid (r = .error (e1, e2)) := HE5.out
            clear hd5
            go_wp2
            exact ⟨rfl, HG5.out, by rw [HRr.out]; exact ⟨rfl, HD5.out⟩⟩
          | ok qx =>
            obtain ⟨q5, u5⟩ := qx
            obtain ⟨⟨v, rfl, rfl⟩, hd5⟩ := hf5
            have hq5 : q5 ≤ E.l.length := HA5.out q5 u5 rfl
            have HD5 := hide2 hd5
            clear hd5
            have HRr : Hid (r = .ok (q5, ⟨1, s, t, Rp.T0, n, [], []⟩)) := HE5.out
            obtain ⟨⟨z0, z1, z2, z3, z4, z5, z6, z7, z8⟩, y0, y1, y2, y3, y4, y5, y6, y7, y8⟩ := df_cells HZ5.out
            obtain ⟨⟨x0, x1, x2, x3, x4, x5, x6, x7, x8⟩, f0, f1, f2, f3, f4, f5, f6, f7, f8⟩ := df_cells HS5.out
            have hne : w.heap.size ≠ w2.heap.size := by omega
            go_wp2
            refine bodyPost_ret (v := dffV ⟨1, s, t, Rp.T0, n, [], []⟩ none 0 none 0) (by simp [results, Tryz.results69, go_sem, z0, z1, z2, z3, z4, z5, z6, z7, z8]) rfl ?_
            exact df_end G h.out HG5.out HD5.out HRr.out ⟨hs, hzt, (by show (ByteArray.mk #[]).size ≤ 6000; decide), (PmsQ.nil _ _ _), Nat.zero_le _, 0, RowQ.nil _ _ _ _⟩

set_option maxRecDepth 100000 in
set_option maxHeartbeats 4000000 in
theorem function_f (E : Env) (G : Good E) (op : Int) (hB : Hid (CBd E op)) : CDf E op 70 (Rp.function E.l E.en) := by
  intro p r w h hp hr
  have hR := h.out.lt
  have HE0 : Hid (r = Rp.function E.l E.en p) := hr
  go_enter Tryz.func70, Tryz.ntmps70
  have HG0 : Hid (w.grownBy (w.alloc ZDf) (some E.R)) := grown_alloc (grown_bel (Below.refl _ w)) _
  have HD0 : Hid (Rdy E (w.alloc ZDf) p op) := h.out.alloc G _
  have HZ0 : Hid ((w.alloc ZDf).heap[w.heap.size]? = some ZDf) := heap_alloc_new w ZDf
  obtain ⟨r1, hr1⟩ : ∃ r1, r1 = Rp.want E.l E.en ⟨#[102, 110]⟩ p := ⟨_, rfl⟩
  have HR1 := hide2 hr1
  have HE1 : Hid (r = Rp.andThen r1 fun q1 _ => Rp.andThen (Rp.name E.l E.en q1) fun q2 s => Rp.andThen (Rp.params E.l E.en q2) fun q3 ps => Rp.andThen (Rp.typ E.l E.en q3) fun q4 t => Rp.andThen (Rp.body E.l E.en 200 q4) fun q5 b => .ok (q5, ⟨2, s, t, Rp.T0, 0, ps, b⟩)) := by rw [HE0.out, hr1]; rfl
  have HA1 : Hid (∀ q x, r1 = .ok (q, x) → q ≤ E.l.length) := fun q x hx => (Rp.want_adv E.l E.en _ p q x hp (by rw [← hr1, hx])).2
  clear hr1
  go_wp2_with fail
  refine (want_f E G p _ ⟨#[102, 110]⟩ r1 _ HD0 hp HR1).mono ?_
  rintro e w1 ⟨hg1, hf1⟩
  have HG1 : Hid (w.grownBy w1 (some E.R)) := grown_tr HG0.out hg1
  have hs1 := hg1.size
  (try simp only [asz] at hs1)
  (try simp only [World.setCell_size] at hs1)
  have HZ1 : Hid (w1.heap[w.heap.size]? = some ZDf) := kept_on hg1 (by omega) HZ0.out
  clear hg1
  cases r1 with
  | error er =>
    obtain ⟨e1, e2⟩ := er
    obtain ⟨rfl, hd1⟩ := hf1
    have HD1 := hide2 hd1
    have HRr : Hid (r = .error (e1, e2)) := HE1.out
    clear hd1
    go_wp2
    exact ⟨rfl, HG1.out, by rw [HRr.out]; exact ⟨rfl, HD1.out⟩⟩
  | ok qx =>
    obtain ⟨q1, u1⟩ := qx
    obtain ⟨⟨v, rfl, rfl⟩, hd1⟩ := hf1
    have hq1 : q1 ≤ E.l.length := HA1.out q1 u1 rfl
    have HD1 := hide2 hd1
    clear hd1
    obtain ⟨r2, hr2⟩ : ∃ r2, r2 = Rp.name E.l E.en q1 := ⟨_, rfl⟩
    have HR2 := hide2 hr2
    have HE2 : Hid (r = Rp.andThen r2 fun q2 s => Rp.andThen (Rp.params E.l E.en q2) fun q3 ps => Rp.andThen (Rp.typ E.l E.en q3) fun q4 t => Rp.andThen (Rp.body E.l E.en 200 q4) fun q5 b => .ok (q5, ⟨2, s, t, Rp.T0, 0, ps, b⟩)) := by rw [HE1.out, hr2]; rfl
    have HA2 : Hid (∀ q x, r2 = .ok (q, x) → q ≤ E.l.length) := fun q x hx => (Rp.name_adv E.l E.en q1 q x hq1 (by rw [← hr2, hx])).2
    clear hr2
    go_wp2_with fail
    refine (name_f E G q1 _ r2 _ HD1 hq1 HR2).mono ?_
    rintro e w2 ⟨hg2, hf2⟩
    have HG2 : Hid (w.grownBy w2 (some E.R)) := grown_tr HG1.out hg2
    have hs2 := hg2.size
    (try simp only [asz] at hs2)
    (try simp only [World.setCell_size] at hs2)
    have HZ2 : Hid (w2.heap[w.heap.size]? = some ZDf) := kept_on hg2 (by omega) HZ1.out
    clear hg2
    cases r2 with
    | error er =>
      obtain ⟨e1, e2⟩ := er
      obtain ⟨rfl, hd2⟩ := hf2
      have HD2 := hide2 hd2
      have HRr : Hid (r = .error (e1, e2)) := HE2.out
      clear hd2
      go_wp2
      exact ⟨rfl, HG2.out, by rw [HRr.out]; exact ⟨rfl, HD2.out⟩⟩
    | ok qx =>
      obtain ⟨q2, s⟩ := qx
      obtain ⟨⟨v, rfl, rfl, hs⟩, hd2⟩ := hf2
      have hq2 : q2 ≤ E.l.length := HA2.out q2 s rfl
      have hwS : w.heap.size < w2.heap.size := lt_of_block HZ2.out
      have HDT2 : Hid (Rdy E (w2.alloc (dffO 2 s 0 ⟨#[]⟩ 0 ⟨#[]⟩ 0 (.slice none 0 0) (.slice none 0 0))) q2 op) := hd2.alloc G _
      have HGT2 : Hid (w.grownBy (w2.alloc (dffO 2 s 0 ⟨#[]⟩ 0 ⟨#[]⟩ 0 (.slice none 0 0) (.slice none 0 0))) (some E.R)) := grown_alloc HG2.out _
      have HZT2 : Hid ((w2.alloc (dffO 2 s 0 ⟨#[]⟩ 0 ⟨#[]⟩ 0 (.slice none 0 0) (.slice none 0 0))).heap[w.heap.size]? = some ZDf) := (Below.heap_alloc _ _ _ hwS).trans HZ2.out
      have HST2 : Hid ((w2.alloc (dffO 2 s 0 ⟨#[]⟩ 0 ⟨#[]⟩ 0 (.slice none 0 0) (.slice none 0 0))).heap[w2.heap.size]? = some (dffO 2 s 0 ⟨#[]⟩ 0 ⟨#[]⟩ 0 (.slice none 0 0) (.slice none 0 0))) := heap_alloc_new w2 _
      clear hd2
      obtain ⟨r3, hr3⟩ : ∃ r3, r3 = Rp.params E.l E.en q2 := ⟨_, rfl⟩
      have HR3 := hide2 hr3
      have HE3 : Hid (r = Rp.andThen r3 fun q3 ps => Rp.andThen (Rp.typ E.l E.en q3) fun q4 t => Rp.andThen (Rp.body E.l E.en 200 q4) fun q5 b => .ok (q5, ⟨2, s, t, Rp.T0, 0, ps, b⟩)) := by rw [HE2.out, hr3]; rfl
      have HA3 : Hid (∀ q x, r3 = .ok (q, x) → q ≤ E.l.length) := fun q x hx => (Rp.params_adv E.l E.en q2 q x hq2 (by rw [← hr3, hx])).2
      clear hr3
      go_wp2_with fail
      refine (params_f E G q2 _ r3 _ HDT2 hq2 HR3).mono ?_
      rintro e w3 ⟨hg3, hf3⟩
      have HG3 : Hid (w.grownBy w3 (some E.R)) := grown_tr HGT2.out hg3
      have hs3 := hg3.size
      (try simp only [asz] at hs3)
      (try simp only [World.setCell_size] at hs3)
      have HZ3 : Hid (w3.heap[w.heap.size]? = some ZDf) := kept_on hg3 (by omega) HZT2.out
      have HS3 : Hid (w3.heap[w2.heap.size]? = some (dffO 2 s 0 ⟨#[]⟩ 0 ⟨#[]⟩ 0 (.slice none 0 0) (.slice none 0 0))) := kept_on hg3 (by omega) HST2.out
      clear hg3
      cases r3 with
      | error er =>
        obtain ⟨e1, e2⟩ := er
        obtain ⟨rfl, hd3⟩ := hf3
        have HD3 := hide2 hd3
        have HRr : Hid (r = .error (e1, e2)) := HE3.out
        clear hd3
        go_wp2
        exact ⟨rfl, HG3.out, by rw [HRr.out]; exact ⟨rfl, HD3.out⟩⟩
      | ok qx =>
        obtain ⟨q3, ps⟩ := qx
        obtain ⟨⟨v, rfl, pa, pc, rfl, hpq⟩, hd3⟩ := hf3
        have hq3 : q3 ≤ E.l.length := HA3.out q3 ps rfl
        have HPQ : Hid (PmsQ (fun j => (w2.heap.size + 1) ≤ j ∧ j < w3.heap.size) w3 ps pa) := hpq.keep (fun j hj => ⟨⟨by have h1 := hj.1; simp only [asz] at h1; exact h1, hj.2⟩, rfl⟩)
        have HKP : Hid (Kept (w2.heap.size + 1) w3.heap.size w3 w3) := Kept.refl _ _ _
        clear hpq
        have HGT3 : Hid (w.grownBy (w3.setCell ⟨w2.heap.size, 7, none⟩ (.slice pa ps.length pc)) (some E.R)) := grown_set' (HG3.out) (Nat.le_of_lt hwS) _
        have HDT3 : Hid (Rdy E (w3.setCell ⟨w2.heap.size, 7, none⟩ (.slice pa ps.length pc)) q3 op) := Rdy.set h.out (hd3) G (HG3.out) (a := ⟨w2.heap.size, 7, none⟩) (Nat.le_of_lt hwS) _
        have HZT3 : Hid ((w3.setCell ⟨w2.heap.size, 7, none⟩ (.slice pa ps.length pc)).heap[w.heap.size]? = some ZDf) := (Below.heap_setCell _ ⟨w2.heap.size, 7, none⟩ _ _ (by show w.heap.size ≠ w2.heap.size; omega)).trans (HZ3.out)
        have HST3 : Hid ((w3.setCell ⟨w2.heap.size, 7, none⟩ (.slice pa ps.length pc)).heap[w2.heap.size]? = some (dffO 2 s 0 ⟨#[]⟩ 0 ⟨#[]⟩ 0 (.slice pa ps.length pc) (.slice none 0 0))) := df_set7 HS3.out _
        have HKP_T3 : Hid (Kept (w2.heap.size + 1) w3.heap.size w3 (w3.setCell ⟨w2.heap.size, 7, none⟩ (.slice pa ps.length pc))) := (HKP.out).set (p := ⟨w2.heap.size, 7, none⟩) (.inl (by show w2.heap.size < _; omega)) _
        obtain ⟨⟨x0, x1, x2, x3, x4, x5, x6, x7, x8⟩, f0, f1, f2, f3, f4, f5, f6, f7, f8⟩ := df_cells HS3.out
        clear hd3
        obtain ⟨r4, hr4⟩ : ∃ r4, r4 = Rp.typ E.l E.en q3 := ⟨_, rfl⟩
        have HR4 := hide2 hr4
        have HE4 : Hid (r = Rp.andThen r4 fun q4 t => Rp.andThen (Rp.body E.l E.en 200 q4) fun q5 b => .ok (q5, ⟨2, s, t, Rp.T0, 0, ps, b⟩)) := by rw [HE3.out, hr4]; rfl
        have HA4 : Hid (∀ q x, r4 = .ok (q, x) → q ≤ E.l.length) := fun q x hx => (Rp.typ_adv E.l E.en q3 q x hq3 (by rw [← hr4, hx])).2
        clear hr4
        go_wp2_with fail
        refine (typ_f E G q3 _ r4 _ HDT3 hq3 HR4).mono ?_
        rintro e w4 ⟨hg4, hf4⟩
        have HG4 : Hid (w.grownBy w4 (some E.R)) := grown_tr HGT3.out hg4
        have hs4 := hg4.size
        (try simp only [asz] at hs4)
        (try simp only [World.setCell_size] at hs4)
        have HZ4 : Hid (w4.heap[w.heap.size]? = some ZDf) := kept_on hg4 (by omega) HZT3.out
        have HS4 : Hid (w4.heap[w2.heap.size]? = some (dffO 2 s 0 ⟨#[]⟩ 0 ⟨#[]⟩ 0 (.slice pa ps.length pc) (.slice none 0 0))) := kept_on hg4 (by omega) HST3.out
        have HKP_4 : Hid (Kept (w2.heap.size + 1) w3.heap.size w3 w4) := HKP_T3.out.grown hg4 (by omega) (by (try simp only [asz]); (try simp only [World.setCell_size]); omega)
        clear hg4
        cases r4 with
        | error er =>
          obtain ⟨e1, e2⟩ := er
          obtain ⟨rfl, hd4⟩ := hf4
          have HD4 := hide2 hd4
          have HRr : Hid (r = .error (e1, e2)) := HE4.out
          clear hd4
          go_wp2
          exact ⟨rfl, HG4.out, by rw [HRr.out]; exact ⟨rfl, HD4.out⟩⟩
        | ok qx =>
          obtain ⟨q4, t⟩ := qx
          obtain ⟨⟨v, rfl, rfl, hzt⟩, hd4⟩ := hf4
          have hq4 : q4 ≤ E.l.length := HA4.out q4 t rfl
          have HGT4 : Hid (w.grownBy ((w4.setCell ⟨w2.heap.size, 2, none⟩ (.int .i64 t.kind)).setCell ⟨w2.heap.size, 3, none⟩ (.string t.gen)) (some E.R)) := grown_set' (grown_set' (HG4.out) (Nat.le_of_lt hwS) _) (Nat.le_of_lt hwS) _
          have HDT4 : Hid (Rdy E ((w4.setCell ⟨w2.heap.size, 2, none⟩ (.int .i64 t.kind)).setCell ⟨w2.heap.size, 3, none⟩ (.string t.gen)) q4 op) := Rdy.set h.out (Rdy.set h.out (hd4) G (HG4.out) (a := ⟨w2.heap.size, 2, none⟩) (Nat.le_of_lt hwS) _) G (grown_set' (HG4.out) (Nat.le_of_lt hwS) _) (a := ⟨w2.heap.size, 3, none⟩) (Nat.le_of_lt hwS) _
          have HZT4 : Hid (((w4.setCell ⟨w2.heap.size, 2, none⟩ (.int .i64 t.kind)).setCell ⟨w2.heap.size, 3, none⟩ (.string t.gen)).heap[w.heap.size]? = some ZDf) := (Below.heap_setCell _ ⟨w2.heap.size, 3, none⟩ _ _ (by show w.heap.size ≠ w2.heap.size; omega)).trans ((Below.heap_setCell _ ⟨w2.heap.size, 2, none⟩ _ _ (by show w.heap.size ≠ w2.heap.size; omega)).trans (HZ4.out))
          have HST4 : Hid (((w4.setCell ⟨w2.heap.size, 2, none⟩ (.int .i64 t.kind)).setCell ⟨w2.heap.size, 3, none⟩ (.string t.gen)).heap[w2.heap.size]? = some (dffO 2 s t.kind t.gen 0 ⟨#[]⟩ 0 (.slice pa ps.length pc) (.slice none 0 0))) := df_set2 HS4.out t.kind t.gen
          have HKP_T4 : Hid (Kept (w2.heap.size + 1) w3.heap.size w3 ((w4.setCell ⟨w2.heap.size, 2, none⟩ (.int .i64 t.kind)).setCell ⟨w2.heap.size, 3, none⟩ (.string t.gen))) := ((HKP_4.out).set (p := ⟨w2.heap.size, 2, none⟩) (.inl (by show w2.heap.size < _; omega)) _).set (p := ⟨w2.heap.size, 3, none⟩) (.inl (by show w2.heap.size < _; omega)) _
          obtain ⟨⟨x0, x1, x2, x3, x4, x5, x6, x7, x8⟩, f0, f1, f2, f3, f4, f5, f6, f7, f8⟩ := df_cells HS4.out
          clear hd4
          obtain ⟨r5, hr5⟩ : ∃ r5, r5 = Rp.body E.l E.en 200 q4 := ⟨_, rfl⟩
          have HR5 := hide2 hr5
          have HE5 : Hid (r = Rp.andThen r5 fun q5 b => .ok (q5, ⟨2, s, t, Rp.T0, 0, ps, b⟩)) := by rw [HE4.out, hr5]; rfl
          have HA5 : Hid (∀ q x, r5 = .ok (q, x) → q ≤ E.l.length) := fun q x hx => (Rp.body_adv E.l E.en 200 q4 q x hq4 (by rw [← hr5, hx])).2
          clear hr5
          go_wp2_with fail
          refine (hB.out q4 r5 _ HDT4 hq4 HR5).mono ?_
          rintro e w5 ⟨hg5, hf5⟩
          have HG5 : Hid (w.grownBy w5 (some E.R)) := grown_tr HGT4.out hg5
          have hs5 := hg5.size
          (try simp only [asz] at hs5)
          (try simp only [World.setCell_size] at hs5)
          have HZ5 : Hid (w5.heap[w.heap.size]? = some ZDf) := kept_on hg5 (by omega) HZT4.out
          have HS5 : Hid (w5.heap[w2.heap.size]? = some (dffO 2 s t.kind t.gen 0 ⟨#[]⟩ 0 (.slice pa ps.length pc) (.slice none 0 0))) := kept_on hg5 (by omega) HST4.out
          have HKP_5 : Hid (Kept (w2.heap.size + 1) w3.heap.size w3 w5) := HKP_T4.out.grown hg5 (by omega) (by (try simp only [asz]); (try simp only [World.setCell_size]); omega)
          clear hg5
          cases r5 with
          | error er =>
            obtain ⟨e1, e2⟩ := er
            obtain ⟨rfl, hd5⟩ := hf5
            have HD5 := hide2 hd5
            have HRr : Hid (r = .error (e1, e2)) := HE5.out
            clear hd5
            go_wp2
            exact ⟨rfl, HG5.out, by rw [HRr.out]; exact ⟨rfl, HD5.out⟩⟩
          | ok qx =>
            obtain ⟨q5, b⟩ := qx
            obtain ⟨⟨v, rfl, ba, bc, m, rfl, hbl, hrow⟩, hd5⟩ := hf5
            have hq5 : q5 ≤ E.l.length := HA5.out q5 b rfl
            have HROW : Hid (RowQ (fun j => w4.heap.size ≤ j ∧ j < w5.heap.size) w5 (StQ (fun j => w4.heap.size ≤ j ∧ j < w5.heap.size) w5 m) b ba) :=
              have h2 : ∀ j, Mad ((w4.setCell ⟨w2.heap.size, 2, none⟩ (.int .i64 t.kind)).setCell ⟨w2.heap.size, 3, none⟩ (.string t.gen)) w5 j → (w4.heap.size ≤ j ∧ j < w5.heap.size) ∧ w5.heap[j]? = w5.heap[j]? := fun j hj => ⟨⟨by have h1 := hj.1; (try simp only [asz] at h1); (try simp only [World.setCell_size] at h1); exact h1, hj.2⟩, rfl⟩
              RowQ.keep h2 (fun _ _ _ _ hx => StQ.keep h2 hx) hrow
            have HKB : Hid (Kept w4.heap.size w5.heap.size w5 w5) := Kept.refl _ _ _
            clear hrow
            have HGT5 : Hid (w.grownBy (w5.setCell ⟨w2.heap.size, 8, none⟩ (.slice ba b.length bc)) (some E.R)) := grown_set' (HG5.out) (Nat.le_of_lt hwS) _
            have HDT5 : Hid (Rdy E (w5.setCell ⟨w2.heap.size, 8, none⟩ (.slice ba b.length bc)) q5 op) := Rdy.set h.out (hd5) G (HG5.out) (a := ⟨w2.heap.size, 8, none⟩) (Nat.le_of_lt hwS) _
            have HZT5 : Hid ((w5.setCell ⟨w2.heap.size, 8, none⟩ (.slice ba b.length bc)).heap[w.heap.size]? = some ZDf) := (Below.heap_setCell _ ⟨w2.heap.size, 8, none⟩ _ _ (by show w.heap.size ≠ w2.heap.size; omega)).trans (HZ5.out)
            have HST5 : Hid ((w5.setCell ⟨w2.heap.size, 8, none⟩ (.slice ba b.length bc)).heap[w2.heap.size]? = some (dffO 2 s t.kind t.gen 0 ⟨#[]⟩ 0 (.slice pa ps.length pc) (.slice ba b.length bc))) := df_set8 HS5.out _
            have HKP_T5 : Hid (Kept (w2.heap.size + 1) w3.heap.size w3 (w5.setCell ⟨w2.heap.size, 8, none⟩ (.slice ba b.length bc))) := (HKP_5.out).set (p := ⟨w2.heap.size, 8, none⟩) (.inl (by show w2.heap.size < _; omega)) _
            have HKB_T5 : Hid (Kept w4.heap.size w5.heap.size w5 (w5.setCell ⟨w2.heap.size, 8, none⟩ (.slice ba b.length bc))) := (HKB.out).set (p := ⟨w2.heap.size, 8, none⟩) (.inl (by show w2.heap.size < _; omega)) _
            obtain ⟨⟨x0, x1, x2, x3, x4, x5, x6, x7, x8⟩, f0, f1, f2, f3, f4, f5, f6, f7, f8⟩ := df_cells HS5.out
            clear hd5
            have HRr : Hid (r = .ok (q5, ⟨2, s, t, Rp.T0, 0, ps, b⟩)) := HE5.out
            obtain ⟨⟨z0, z1, z2, z3, z4, z5, z6, z7, z8⟩, y0, y1, y2, y3, y4, y5, y6, y7, y8⟩ := df_cells HZ5.out
            have hne : w.heap.size ≠ w2.heap.size := by omega
            go_wp2
            refine bodyPost_ret (v := dffV ⟨2, s, t, Rp.T0, 0, ps, b⟩ pa pc ba bc) (by simp [results, Tryz.results70, go_sem, z0, z1, z2, z3, z4, z5, z6, z7, z8]) rfl ?_
            exact df_end G h.out HGT5.out HDT5.out HRr.out ⟨hs, hzt, (by show (ByteArray.mk #[]).size ≤ 6000; decide), (HPQ.out.later HKP_T5.out (by omega) (by (try simp only [World.setCell_size]); omega)), hbl, m, HROW.out.later HKB_T5.out (by omega) (by (try simp only [World.setCell_size]); omega)⟩

set_option maxRecDepth 100000 in
set_option maxHeartbeats 4000000 in
theorem generator_f (E : Env) (G : Good E) (op : Int) (hB : Hid (CBd E op)) : CDf E op 71 (Rp.generator E.l E.en) := by
  intro p r w h hp hr
  have hR := h.out.lt
  have HE0 : Hid (r = Rp.generator E.l E.en p) := hr
  go_enter Tryz.func71, Tryz.ntmps71
  have HG0 : Hid (w.grownBy (w.alloc ZDf) (some E.R)) := grown_alloc (grown_bel (Below.refl _ w)) _
  have HD0 : Hid (Rdy E (w.alloc ZDf) p op) := h.out.alloc G _
  have HZ0 : Hid ((w.alloc ZDf).heap[w.heap.size]? = some ZDf) := heap_alloc_new w ZDf
  obtain ⟨r1, hr1⟩ : ∃ r1, r1 = Rp.want E.l E.en ⟨#[103, 101, 110]⟩ p := ⟨_, rfl⟩
  have HR1 := hide2 hr1
  have HE1 : Hid (r = Rp.andThen r1 fun q1 _ => Rp.andThen (Rp.name E.l E.en q1) fun q2 s => Rp.andThen (Rp.params E.l E.en q2) fun q3 ps => Rp.andThen (Rp.want E.l E.en ⟨#[116, 97, 107, 101, 115]⟩ q3) fun q4 _ => Rp.andThen (Rp.typ E.l E.en q4) fun q5 t => Rp.andThen (Rp.want E.l E.en ⟨#[121, 105, 101, 108, 100, 115]⟩ q5) fun q6 _ => Rp.andThen (Rp.typ E.l E.en q6) fun q7 u => Rp.andThen (Rp.body E.l E.en 200 q7) fun q8 b => .ok (q8, ⟨3, s, u, t, 0, ps, b⟩)) := by rw [HE0.out, hr1]; rfl
  have HA1 : Hid (∀ q x, r1 = .ok (q, x) → q ≤ E.l.length) := fun q x hx => (Rp.want_adv E.l E.en _ p q x hp (by rw [← hr1, hx])).2
  clear hr1
  go_wp2_with fail
  refine (want_f E G p _ ⟨#[103, 101, 110]⟩ r1 _ HD0 hp HR1).mono ?_
  rintro e w1 ⟨hg1, hf1⟩
  have HG1 : Hid (w.grownBy w1 (some E.R)) := grown_tr HG0.out hg1
  have hs1 := hg1.size
  (try simp only [asz] at hs1)
  (try simp only [World.setCell_size] at hs1)
  have HZ1 : Hid (w1.heap[w.heap.size]? = some ZDf) := kept_on hg1 (by omega) HZ0.out
  clear hg1
  cases r1 with
  | error er =>
    obtain ⟨e1, e2⟩ := er
    obtain ⟨rfl, hd1⟩ := hf1
    have HD1 := hide2 hd1
    have HRr : Hid (r = .error (e1, e2)) := HE1.out
    clear hd1
    go_wp2
    exact ⟨rfl, HG1.out, by rw [HRr.out]; exact ⟨rfl, HD1.out⟩⟩
  | ok qx =>
    obtain ⟨q1, u1⟩ := qx
    obtain ⟨⟨v, rfl, rfl⟩, hd1⟩ := hf1
    have hq1 : q1 ≤ E.l.length := HA1.out q1 u1 rfl
    have HD1 := hide2 hd1
    clear hd1
    obtain ⟨r2, hr2⟩ : ∃ r2, r2 = Rp.name E.l E.en q1 := ⟨_, rfl⟩
    have HR2 := hide2 hr2
    have HE2 : Hid (r = Rp.andThen r2 fun q2 s => Rp.andThen (Rp.params E.l E.en q2) fun q3 ps => Rp.andThen (Rp.want E.l E.en ⟨#[116, 97, 107, 101, 115]⟩ q3) fun q4 _ => Rp.andThen (Rp.typ E.l E.en q4) fun q5 t => Rp.andThen (Rp.want E.l E.en ⟨#[121, 105, 101, 108, 100, 115]⟩ q5) fun q6 _ => Rp.andThen (Rp.typ E.l E.en q6) fun q7 u => Rp.andThen (Rp.body E.l E.en 200 q7) fun q8 b => .ok (q8, ⟨3, s, u, t, 0, ps, b⟩)) := by rw [HE1.out, hr2]; rfl
    have HA2 : Hid (∀ q x, r2 = .ok (q, x) → q ≤ E.l.length) := fun q x hx => (Rp.name_adv E.l E.en q1 q x hq1 (by rw [← hr2, hx])).2
    clear hr2
    go_wp2_with fail
    refine (name_f E G q1 _ r2 _ HD1 hq1 HR2).mono ?_
    rintro e w2 ⟨hg2, hf2⟩
    have HG2 : Hid (w.grownBy w2 (some E.R)) := grown_tr HG1.out hg2
    have hs2 := hg2.size
    (try simp only [asz] at hs2)
    (try simp only [World.setCell_size] at hs2)
    have HZ2 : Hid (w2.heap[w.heap.size]? = some ZDf) := kept_on hg2 (by omega) HZ1.out
    clear hg2
    cases r2 with
    | error er =>
      obtain ⟨e1, e2⟩ := er
      obtain ⟨rfl, hd2⟩ := hf2
      have HD2 := hide2 hd2
      have HRr : Hid (r = .error (e1, e2)) := HE2.out
      clear hd2
      go_wp2
      exact ⟨rfl, HG2.out, by rw [HRr.out]; exact ⟨rfl, HD2.out⟩⟩
    | ok qx =>
      obtain ⟨q2, s⟩ := qx
      obtain ⟨⟨v, rfl, rfl, hs⟩, hd2⟩ := hf2
      have hq2 : q2 ≤ E.l.length := HA2.out q2 s rfl
      have hwS : w.heap.size < w2.heap.size := lt_of_block HZ2.out
      have HDT2 : Hid (Rdy E (w2.alloc (dffO 3 s 0 ⟨#[]⟩ 0 ⟨#[]⟩ 0 (.slice none 0 0) (.slice none 0 0))) q2 op) := hd2.alloc G _
      have HGT2 : Hid (w.grownBy (w2.alloc (dffO 3 s 0 ⟨#[]⟩ 0 ⟨#[]⟩ 0 (.slice none 0 0) (.slice none 0 0))) (some E.R)) := grown_alloc HG2.out _
      have HZT2 : Hid ((w2.alloc (dffO 3 s 0 ⟨#[]⟩ 0 ⟨#[]⟩ 0 (.slice none 0 0) (.slice none 0 0))).heap[w.heap.size]? = some ZDf) := (Below.heap_alloc _ _ _ hwS).trans HZ2.out
      have HST2 : Hid ((w2.alloc (dffO 3 s 0 ⟨#[]⟩ 0 ⟨#[]⟩ 0 (.slice none 0 0) (.slice none 0 0))).heap[w2.heap.size]? = some (dffO 3 s 0 ⟨#[]⟩ 0 ⟨#[]⟩ 0 (.slice none 0 0) (.slice none 0 0))) := heap_alloc_new w2 _
      clear hd2
      obtain ⟨r3, hr3⟩ : ∃ r3, r3 = Rp.params E.l E.en q2 := ⟨_, rfl⟩
      have HR3 := hide2 hr3
      have HE3 : Hid (r = Rp.andThen r3 fun q3 ps => Rp.andThen (Rp.want E.l E.en ⟨#[116, 97, 107, 101, 115]⟩ q3) fun q4 _ => Rp.andThen (Rp.typ E.l E.en q4) fun q5 t => Rp.andThen (Rp.want E.l E.en ⟨#[121, 105, 101, 108, 100, 115]⟩ q5) fun q6 _ => Rp.andThen (Rp.typ E.l E.en q6) fun q7 u => Rp.andThen (Rp.body E.l E.en 200 q7) fun q8 b => .ok (q8, ⟨3, s, u, t, 0, ps, b⟩)) := by rw [HE2.out, hr3]; rfl
      have HA3 : Hid (∀ q x, r3 = .ok (q, x) → q ≤ E.l.length) := fun q x hx => (Rp.params_adv E.l E.en q2 q x hq2 (by rw [← hr3, hx])).2
      clear hr3
      go_wp2_with fail
      refine (params_f E G q2 _ r3 _ HDT2 hq2 HR3).mono ?_
      rintro e w3 ⟨hg3, hf3⟩
      have HG3 : Hid (w.grownBy w3 (some E.R)) := grown_tr HGT2.out hg3
      have hs3 := hg3.size
      (try simp only [asz] at hs3)
      (try simp only [World.setCell_size] at hs3)
      have HZ3 : Hid (w3.heap[w.heap.size]? = some ZDf) := kept_on hg3 (by omega) HZT2.out
      have HS3 : Hid (w3.heap[w2.heap.size]? = some (dffO 3 s 0 ⟨#[]⟩ 0 ⟨#[]⟩ 0 (.slice none 0 0) (.slice none 0 0))) := kept_on hg3 (by omega) HST2.out
      clear hg3
      cases r3 with
      | error er =>
        obtain ⟨e1, e2⟩ := er
        obtain ⟨rfl, hd3⟩ := hf3
        have HD3 := hide2 hd3
        have HRr : Hid (r = .error (e1, e2)) := HE3.out
        clear hd3
        go_wp2
        exact ⟨rfl, HG3.out, by rw [HRr.out]; exact ⟨rfl, HD3.out⟩⟩
      | ok qx =>
        obtain ⟨q3, ps⟩ := qx
        obtain ⟨⟨v, rfl, pa, pc, rfl, hpq⟩, hd3⟩ := hf3
        have hq3 : q3 ≤ E.l.length := HA3.out q3 ps rfl
        have HPQ : Hid (PmsQ (fun j => (w2.heap.size + 1) ≤ j ∧ j < w3.heap.size) w3 ps pa) := hpq.keep (fun j hj => ⟨⟨by have h1 := hj.1; simp only [asz] at h1; exact h1, hj.2⟩, rfl⟩)
        have HKP : Hid (Kept (w2.heap.size + 1) w3.heap.size w3 w3) := Kept.refl _ _ _
        clear hpq
        have HGT3 : Hid (w.grownBy (w3.setCell ⟨w2.heap.size, 7, none⟩ (.slice pa ps.length pc)) (some E.R)) := grown_set' (HG3.out) (Nat.le_of_lt hwS) _
        have HDT3 : Hid (Rdy E (w3.setCell ⟨w2.heap.size, 7, none⟩ (.slice pa ps.length pc)) q3 op) := Rdy.set h.out (hd3) G (HG3.out) (a := ⟨w2.heap.size, 7, none⟩) (Nat.le_of_lt hwS) _
        have HZT3 : Hid ((w3.setCell ⟨w2.heap.size, 7, none⟩ (.slice pa ps.length pc)).heap[w.heap.size]? = some ZDf) := (Below.heap_setCell _ ⟨w2.heap.size, 7, none⟩ _ _ (by show w.heap.size ≠ w2.heap.size; omega)).trans (HZ3.out)
        have HST3 : Hid ((w3.setCell ⟨w2.heap.size, 7, none⟩ (.slice pa ps.length pc)).heap[w2.heap.size]? = some (dffO 3 s 0 ⟨#[]⟩ 0 ⟨#[]⟩ 0 (.slice pa ps.length pc) (.slice none 0 0))) := df_set7 HS3.out _
        have HKP_T3 : Hid (Kept (w2.heap.size + 1) w3.heap.size w3 (w3.setCell ⟨w2.heap.size, 7, none⟩ (.slice pa ps.length pc))) := (HKP.out).set (p := ⟨w2.heap.size, 7, none⟩) (.inl (by show w2.heap.size < _; omega)) _
        obtain ⟨⟨x0, x1, x2, x3, x4, x5, x6, x7, x8⟩, f0, f1, f2, f3, f4, f5, f6, f7, f8⟩ := df_cells HS3.out
        clear hd3
        obtain ⟨r4, hr4⟩ : ∃ r4, r4 = Rp.want E.l E.en ⟨#[116, 97, 107, 101, 115]⟩ q3 := ⟨_, rfl⟩
        have HR4 := hide2 hr4
        have HE4 : Hid (r = Rp.andThen r4 fun q4 _ => Rp.andThen (Rp.typ E.l E.en q4) fun q5 t => Rp.andThen (Rp.want E.l E.en ⟨#[121, 105, 101, 108, 100, 115]⟩ q5) fun q6 _ => Rp.andThen (Rp.typ E.l E.en q6) fun q7 u => Rp.andThen (Rp.body E.l E.en 200 q7) fun q8 b => .ok (q8, ⟨3, s, u, t, 0, ps, b⟩)) := by rw [HE3.out, hr4]; rfl
        have HA4 : Hid (∀ q x, r4 = .ok (q, x) → q ≤ E.l.length) := fun q x hx => (Rp.want_adv E.l E.en _ q3 q x hq3 (by rw [← hr4, hx])).2
        clear hr4
        go_wp2_with fail
        refine (want_f E G q3 _ ⟨#[116, 97, 107, 101, 115]⟩ r4 _ HDT3 hq3 HR4).mono ?_
        rintro e w4 ⟨hg4, hf4⟩
        have HG4 : Hid (w.grownBy w4 (some E.R)) := grown_tr HGT3.out hg4
        have hs4 := hg4.size
        (try simp only [asz] at hs4)
        (try simp only [World.setCell_size] at hs4)
        have HZ4 : Hid (w4.heap[w.heap.size]? = some ZDf) := kept_on hg4 (by omega) HZT3.out
        have HS4 : Hid (w4.heap[w2.heap.size]? = some (dffO 3 s 0 ⟨#[]⟩ 0 ⟨#[]⟩ 0 (.slice pa ps.length pc) (.slice none 0 0))) := kept_on hg4 (by omega) HST3.out
        have HKP_4 : Hid (Kept (w2.heap.size + 1) w3.heap.size w3 w4) := HKP_T3.out.grown hg4 (by omega) (by (try simp only [asz]); (try simp only [World.setCell_size]); omega)
        clear hg4
        cases r4 with
        | error er =>
          obtain ⟨e1, e2⟩ := er
          obtain ⟨rfl, hd4⟩ := hf4
          have HD4 := hide2 hd4
          have HRr : Hid (r = .error (e1, e2)) := HE4.out
          clear hd4
          go_wp2
          exact ⟨rfl, HG4.out, by rw [HRr.out]; exact ⟨rfl, HD4.out⟩⟩
        | ok qx =>
          obtain ⟨q4, u4⟩ := qx
          obtain ⟨⟨v, rfl, rfl⟩, hd4⟩ := hf4
          have hq4 : q4 ≤ E.l.length := HA4.out q4 u4 rfl
          have HD4 := hide2 hd4
          clear hd4
          obtain ⟨r5, hr5⟩ : ∃ r5, r5 = Rp.typ E.l E.en q4 := ⟨_, rfl⟩
          have HR5 := hide2 hr5
          have HE5 : Hid (r = Rp.andThen r5 fun q5 t => Rp.andThen (Rp.want E.l E.en ⟨#[121, 105, 101, 108, 100, 115]⟩ q5) fun q6 _ => Rp.andThen (Rp.typ E.l E.en q6) fun q7 u => Rp.andThen (Rp.body E.l E.en 200 q7) fun q8 b => .ok (q8, ⟨3, s, u, t, 0, ps, b⟩)) := by rw [HE4.out, hr5]; rfl
          have HA5 : Hid (∀ q x, r5 = .ok (q, x) → q ≤ E.l.length) := fun q x hx => (Rp.typ_adv E.l E.en q4 q x hq4 (by rw [← hr5, hx])).2
          clear hr5
          go_wp2_with fail
          refine (typ_f E G q4 _ r5 _ HD4 hq4 HR5).mono ?_
          rintro e w5 ⟨hg5, hf5⟩
          have HG5 : Hid (w.grownBy w5 (some E.R)) := grown_tr HG4.out hg5
          have hs5 := hg5.size
          (try simp only [asz] at hs5)
          (try simp only [World.setCell_size] at hs5)
          have HZ5 : Hid (w5.heap[w.heap.size]? = some ZDf) := kept_on hg5 (by omega) HZ4.out
          have HS5 : Hid (w5.heap[w2.heap.size]? = some (dffO 3 s 0 ⟨#[]⟩ 0 ⟨#[]⟩ 0 (.slice pa ps.length pc) (.slice none 0 0))) := kept_on hg5 (by omega) HS4.out
          have HKP_5 : Hid (Kept (w2.heap.size + 1) w3.heap.size w3 w5) := HKP_4.out.grown hg5 (by omega) (by (try simp only [asz]); (try simp only [World.setCell_size]); omega)
          clear hg5
          cases r5 with
          | error er =>
            obtain ⟨e1, e2⟩ := er
            obtain ⟨rfl, hd5⟩ := hf5
            have HD5 := hide2 hd5
            have HRr : Hid (r = .error (e1, e2)) := HE5.out
            clear hd5
            go_wp2
            exact ⟨rfl, HG5.out, by rw [HRr.out]; exact ⟨rfl, HD5.out⟩⟩
          | ok qx =>
            obtain ⟨q5, t⟩ := qx
            obtain ⟨⟨v, rfl, rfl, hzt⟩, hd5⟩ := hf5
            have hq5 : q5 ≤ E.l.length := HA5.out q5 t rfl
            have HGT5 : Hid (w.grownBy ((w5.setCell ⟨w2.heap.size, 4, none⟩ (.int .i64 t.kind)).setCell ⟨w2.heap.size, 5, none⟩ (.string t.gen)) (some E.R)) := grown_set' (grown_set' (HG5.out) (Nat.le_of_lt hwS) _) (Nat.le_of_lt hwS) _
            have HDT5 : Hid (Rdy E ((w5.setCell ⟨w2.heap.size, 4, none⟩ (.int .i64 t.kind)).setCell ⟨w2.heap.size, 5, none⟩ (.string t.gen)) q5 op) := Rdy.set h.out (Rdy.set h.out (hd5) G (HG5.out) (a := ⟨w2.heap.size, 4, none⟩) (Nat.le_of_lt hwS) _) G (grown_set' (HG5.out) (Nat.le_of_lt hwS) _) (a := ⟨w2.heap.size, 5, none⟩) (Nat.le_of_lt hwS) _
            have HZT5 : Hid (((w5.setCell ⟨w2.heap.size, 4, none⟩ (.int .i64 t.kind)).setCell ⟨w2.heap.size, 5, none⟩ (.string t.gen)).heap[w.heap.size]? = some ZDf) := (Below.heap_setCell _ ⟨w2.heap.size, 5, none⟩ _ _ (by show w.heap.size ≠ w2.heap.size; omega)).trans ((Below.heap_setCell _ ⟨w2.heap.size, 4, none⟩ _ _ (by show w.heap.size ≠ w2.heap.size; omega)).trans (HZ5.out))
            have HST5 : Hid (((w5.setCell ⟨w2.heap.size, 4, none⟩ (.int .i64 t.kind)).setCell ⟨w2.heap.size, 5, none⟩ (.string t.gen)).heap[w2.heap.size]? = some (dffO 3 s 0 ⟨#[]⟩ t.kind t.gen 0 (.slice pa ps.length pc) (.slice none 0 0))) := df_set4 HS5.out t.kind t.gen
            have HKP_T5 : Hid (Kept (w2.heap.size + 1) w3.heap.size w3 ((w5.setCell ⟨w2.heap.size, 4, none⟩ (.int .i64 t.kind)).setCell ⟨w2.heap.size, 5, none⟩ (.string t.gen))) := ((HKP_5.out).set (p := ⟨w2.heap.size, 4, none⟩) (.inl (by show w2.heap.size < _; omega)) _).set (p := ⟨w2.heap.size, 5, none⟩) (.inl (by show w2.heap.size < _; omega)) _
            obtain ⟨⟨x0, x1, x2, x3, x4, x5, x6, x7, x8⟩, f0, f1, f2, f3, f4, f5, f6, f7, f8⟩ := df_cells HS5.out
            clear hd5
            obtain ⟨r6, hr6⟩ : ∃ r6, r6 = Rp.want E.l E.en ⟨#[121, 105, 101, 108, 100, 115]⟩ q5 := ⟨_, rfl⟩
            have HR6 := hide2 hr6
            have HE6 : Hid (r = Rp.andThen r6 fun q6 _ => Rp.andThen (Rp.typ E.l E.en q6) fun q7 u => Rp.andThen (Rp.body E.l E.en 200 q7) fun q8 b => .ok (q8, ⟨3, s, u, t, 0, ps, b⟩)) := by rw [HE5.out, hr6]; rfl
            have HA6 : Hid (∀ q x, r6 = .ok (q, x) → q ≤ E.l.length) := fun q x hx => (Rp.want_adv E.l E.en _ q5 q x hq5 (by rw [← hr6, hx])).2
            clear hr6
            go_wp2_with fail
            refine (want_f E G q5 _ ⟨#[121, 105, 101, 108, 100, 115]⟩ r6 _ HDT5 hq5 HR6).mono ?_
            rintro e w6 ⟨hg6, hf6⟩
            have HG6 : Hid (w.grownBy w6 (some E.R)) := grown_tr HGT5.out hg6
            have hs6 := hg6.size
            (try simp only [asz] at hs6)
            (try simp only [World.setCell_size] at hs6)
            have HZ6 : Hid (w6.heap[w.heap.size]? = some ZDf) := kept_on hg6 (by omega) HZT5.out
            have HS6 : Hid (w6.heap[w2.heap.size]? = some (dffO 3 s 0 ⟨#[]⟩ t.kind t.gen 0 (.slice pa ps.length pc) (.slice none 0 0))) := kept_on hg6 (by omega) HST5.out
            have HKP_6 : Hid (Kept (w2.heap.size + 1) w3.heap.size w3 w6) := HKP_T5.out.grown hg6 (by omega) (by (try simp only [asz]); (try simp only [World.setCell_size]); omega)
            clear hg6
            cases r6 with
            | error er =>
              obtain ⟨e1, e2⟩ := er
              obtain ⟨rfl, hd6⟩ := hf6
              have HD6 := hide2 hd6
              have HRr : Hid (r = .error (e1, e2)) := HE6.out
              clear hd6
              go_wp2
              exact ⟨rfl, HG6.out, by rw [HRr.out]; exact ⟨rfl, HD6.out⟩⟩
            | ok qx =>
              obtain ⟨q6, u6⟩ := qx
              obtain ⟨⟨v, rfl, rfl⟩, hd6⟩ := hf6
              have hq6 : q6 ≤ E.l.length := HA6.out q6 u6 rfl
              have HD6 := hide2 hd6
              clear hd6
              obtain ⟨r7, hr7⟩ : ∃ r7, r7 = Rp.typ E.l E.en q6 := ⟨_, rfl⟩
              have HR7 := hide2 hr7
              have HE7 : Hid (r = Rp.andThen r7 fun q7 u => Rp.andThen (Rp.body E.l E.en 200 q7) fun q8 b => .ok (q8, ⟨3, s, u, t, 0, ps, b⟩)) := by rw [HE6.out, hr7]; rfl
              have HA7 : Hid (∀ q x, r7 = .ok (q, x) → q ≤ E.l.length) := fun q x hx => (Rp.typ_adv E.l E.en q6 q x hq6 (by rw [← hr7, hx])).2
              clear hr7
              go_wp2_with fail
              refine (typ_f E G q6 _ r7 _ HD6 hq6 HR7).mono ?_
              rintro e w7 ⟨hg7, hf7⟩
              have HG7 : Hid (w.grownBy w7 (some E.R)) := grown_tr HG6.out hg7
              have hs7 := hg7.size
              (try simp only [asz] at hs7)
              (try simp only [World.setCell_size] at hs7)
              have HZ7 : Hid (w7.heap[w.heap.size]? = some ZDf) := kept_on hg7 (by omega) HZ6.out
              have HS7 : Hid (w7.heap[w2.heap.size]? = some (dffO 3 s 0 ⟨#[]⟩ t.kind t.gen 0 (.slice pa ps.length pc) (.slice none 0 0))) := kept_on hg7 (by omega) HS6.out
              have HKP_7 : Hid (Kept (w2.heap.size + 1) w3.heap.size w3 w7) := HKP_6.out.grown hg7 (by omega) (by (try simp only [asz]); (try simp only [World.setCell_size]); omega)
              clear hg7
              cases r7 with
              | error er =>
                obtain ⟨e1, e2⟩ := er
                obtain ⟨rfl, hd7⟩ := hf7
                have HD7 := hide2 hd7
                have HRr : Hid (r = .error (e1, e2)) := HE7.out
                clear hd7
                go_wp2
                exact ⟨rfl, HG7.out, by rw [HRr.out]; exact ⟨rfl, HD7.out⟩⟩
              | ok qx =>
                obtain ⟨q7, u⟩ := qx
                obtain ⟨⟨v, rfl, rfl, hzu⟩, hd7⟩ := hf7
                have hq7 : q7 ≤ E.l.length := HA7.out q7 u rfl
                have HGT7 : Hid (w.grownBy ((w7.setCell ⟨w2.heap.size, 2, none⟩ (.int .i64 u.kind)).setCell ⟨w2.heap.size, 3, none⟩ (.string u.gen)) (some E.R)) := grown_set' (grown_set' (HG7.out) (Nat.le_of_lt hwS) _) (Nat.le_of_lt hwS) _
                have HDT7 : Hid (Rdy E ((w7.setCell ⟨w2.heap.size, 2, none⟩ (.int .i64 u.kind)).setCell ⟨w2.heap.size, 3, none⟩ (.string u.gen)) q7 op) := Rdy.set h.out (Rdy.set h.out (hd7) G (HG7.out) (a := ⟨w2.heap.size, 2, none⟩) (Nat.le_of_lt hwS) _) G (grown_set' (HG7.out) (Nat.le_of_lt hwS) _) (a := ⟨w2.heap.size, 3, none⟩) (Nat.le_of_lt hwS) _
                have HZT7 : Hid (((w7.setCell ⟨w2.heap.size, 2, none⟩ (.int .i64 u.kind)).setCell ⟨w2.heap.size, 3, none⟩ (.string u.gen)).heap[w.heap.size]? = some ZDf) := (Below.heap_setCell _ ⟨w2.heap.size, 3, none⟩ _ _ (by show w.heap.size ≠ w2.heap.size; omega)).trans ((Below.heap_setCell _ ⟨w2.heap.size, 2, none⟩ _ _ (by show w.heap.size ≠ w2.heap.size; omega)).trans (HZ7.out))
                have HST7 : Hid (((w7.setCell ⟨w2.heap.size, 2, none⟩ (.int .i64 u.kind)).setCell ⟨w2.heap.size, 3, none⟩ (.string u.gen)).heap[w2.heap.size]? = some (dffO 3 s u.kind u.gen t.kind t.gen 0 (.slice pa ps.length pc) (.slice none 0 0))) := df_set2 HS7.out u.kind u.gen
                have HKP_T7 : Hid (Kept (w2.heap.size + 1) w3.heap.size w3 ((w7.setCell ⟨w2.heap.size, 2, none⟩ (.int .i64 u.kind)).setCell ⟨w2.heap.size, 3, none⟩ (.string u.gen))) := ((HKP_7.out).set (p := ⟨w2.heap.size, 2, none⟩) (.inl (by show w2.heap.size < _; omega)) _).set (p := ⟨w2.heap.size, 3, none⟩) (.inl (by show w2.heap.size < _; omega)) _
                obtain ⟨⟨x0, x1, x2, x3, x4, x5, x6, x7, x8⟩, f0, f1, f2, f3, f4, f5, f6, f7, f8⟩ := df_cells HS7.out
                clear hd7
                obtain ⟨r8, hr8⟩ : ∃ r8, r8 = Rp.body E.l E.en 200 q7 := ⟨_, rfl⟩
                have HR8 := hide2 hr8
                have HE8 : Hid (r = Rp.andThen r8 fun q8 b => .ok (q8, ⟨3, s, u, t, 0, ps, b⟩)) := by rw [HE7.out, hr8]; rfl
                have HA8 : Hid (∀ q x, r8 = .ok (q, x) → q ≤ E.l.length) := fun q x hx => (Rp.body_adv E.l E.en 200 q7 q x hq7 (by rw [← hr8, hx])).2
                clear hr8
                go_wp2_with fail
                refine (hB.out q7 r8 _ HDT7 hq7 HR8).mono ?_
                rintro e w8 ⟨hg8, hf8⟩
                have HG8 : Hid (w.grownBy w8 (some E.R)) := grown_tr HGT7.out hg8
                have hs8 := hg8.size
                (try simp only [asz] at hs8)
                (try simp only [World.setCell_size] at hs8)
                have HZ8 : Hid (w8.heap[w.heap.size]? = some ZDf) := kept_on hg8 (by omega) HZT7.out
                have HS8 : Hid (w8.heap[w2.heap.size]? = some (dffO 3 s u.kind u.gen t.kind t.gen 0 (.slice pa ps.length pc) (.slice none 0 0))) := kept_on hg8 (by omega) HST7.out
                have HKP_8 : Hid (Kept (w2.heap.size + 1) w3.heap.size w3 w8) := HKP_T7.out.grown hg8 (by omega) (by (try simp only [asz]); (try simp only [World.setCell_size]); omega)
                clear hg8
                cases r8 with
                | error er =>
                  obtain ⟨e1, e2⟩ := er
                  obtain ⟨rfl, hd8⟩ := hf8
                  have HD8 := hide2 hd8
                  have HRr : Hid (r = .error (e1, e2)) := HE8.out
                  clear hd8
                  go_wp2
                  exact ⟨rfl, HG8.out, by rw [HRr.out]; exact ⟨rfl, HD8.out⟩⟩
                | ok qx =>
                  obtain ⟨q8, b⟩ := qx
                  obtain ⟨⟨v, rfl, ba, bc, m, rfl, hbl, hrow⟩, hd8⟩ := hf8
                  have hq8 : q8 ≤ E.l.length := HA8.out q8 b rfl
                  have HROW : Hid (RowQ (fun j => w7.heap.size ≤ j ∧ j < w8.heap.size) w8 (StQ (fun j => w7.heap.size ≤ j ∧ j < w8.heap.size) w8 m) b ba) :=
                    have h2 : ∀ j, Mad ((w7.setCell ⟨w2.heap.size, 2, none⟩ (.int .i64 u.kind)).setCell ⟨w2.heap.size, 3, none⟩ (.string u.gen)) w8 j → (w7.heap.size ≤ j ∧ j < w8.heap.size) ∧ w8.heap[j]? = w8.heap[j]? := fun j hj => ⟨⟨by have h1 := hj.1; (try simp only [asz] at h1); (try simp only [World.setCell_size] at h1); exact h1, hj.2⟩, rfl⟩
                    RowQ.keep h2 (fun _ _ _ _ hx => StQ.keep h2 hx) hrow
                  have HKB : Hid (Kept w7.heap.size w8.heap.size w8 w8) := Kept.refl _ _ _
                  clear hrow
                  have HGT8 : Hid (w.grownBy (w8.setCell ⟨w2.heap.size, 8, none⟩ (.slice ba b.length bc)) (some E.R)) := grown_set' (HG8.out) (Nat.le_of_lt hwS) _
                  have HDT8 : Hid (Rdy E (w8.setCell ⟨w2.heap.size, 8, none⟩ (.slice ba b.length bc)) q8 op) := Rdy.set h.out (hd8) G (HG8.out) (a := ⟨w2.heap.size, 8, none⟩) (Nat.le_of_lt hwS) _
                  have HZT8 : Hid ((w8.setCell ⟨w2.heap.size, 8, none⟩ (.slice ba b.length bc)).heap[w.heap.size]? = some ZDf) := (Below.heap_setCell _ ⟨w2.heap.size, 8, none⟩ _ _ (by show w.heap.size ≠ w2.heap.size; omega)).trans (HZ8.out)
                  have HST8 : Hid ((w8.setCell ⟨w2.heap.size, 8, none⟩ (.slice ba b.length bc)).heap[w2.heap.size]? = some (dffO 3 s u.kind u.gen t.kind t.gen 0 (.slice pa ps.length pc) (.slice ba b.length bc))) := df_set8 HS8.out _
                  have HKP_T8 : Hid (Kept (w2.heap.size + 1) w3.heap.size w3 (w8.setCell ⟨w2.heap.size, 8, none⟩ (.slice ba b.length bc))) := (HKP_8.out).set (p := ⟨w2.heap.size, 8, none⟩) (.inl (by show w2.heap.size < _; omega)) _
                  have HKB_T8 : Hid (Kept w7.heap.size w8.heap.size w8 (w8.setCell ⟨w2.heap.size, 8, none⟩ (.slice ba b.length bc))) := (HKB.out).set (p := ⟨w2.heap.size, 8, none⟩) (.inl (by show w2.heap.size < _; omega)) _
                  obtain ⟨⟨x0, x1, x2, x3, x4, x5, x6, x7, x8⟩, f0, f1, f2, f3, f4, f5, f6, f7, f8⟩ := df_cells HS8.out
                  clear hd8
                  have HRr : Hid (r = .ok (q8, ⟨3, s, u, t, 0, ps, b⟩)) := HE8.out
                  obtain ⟨⟨z0, z1, z2, z3, z4, z5, z6, z7, z8⟩, y0, y1, y2, y3, y4, y5, y6, y7, y8⟩ := df_cells HZ8.out
                  have hne : w.heap.size ≠ w2.heap.size := by omega
                  go_wp2
                  refine bodyPost_ret (v := dffV ⟨3, s, u, t, 0, ps, b⟩ pa pc ba bc) (by simp [results, Tryz.results71, go_sem, z0, z1, z2, z3, z4, z5, z6, z7, z8]) rfl ?_
                  exact df_end G h.out HGT8.out HDT8.out HRr.out ⟨hs, hzu, hzt, (HPQ.out.later HKP_T8.out (by omega) (by (try simp only [World.setCell_size]); omega)), hbl, m, HROW.out.later HKB_T8.out (by omega) (by (try simp only [World.setCell_size]); omega)⟩

end Go.Proofs.YtlnikpcoejpknaaGreatDoor

/- The walk of def (laid by tools/mkdef.py). -/
namespace Go.Proofs.YtlnikpcoejpknaaGreatDoor
open Go.RowKit



set_option maxRecDepth 100000 in
set_option maxHeartbeats 4000000 in
theorem def_f (E : Env) (G : Good E) (op : Int) (hB : Hid (CBd E op)) (hX : Hid (CDf E op 69 (Rp.box E.l E.en))) (hF : Hid (CDf E op 70 (Rp.function E.l E.en))) (hN : Hid (CDf E op 71 (Rp.generator E.l E.en))) : CDf E op 37 (Rp.df E.l E.en) := by
  intro p r w h hp hr
  have hR := h.out.lt
  obtain ⟨t, ht⟩ : ∃ t, t = pk E.l p E.en := ⟨_, rfl⟩
  have HT := hide2 ht
  have HRT : Hid (r = if t.text = ⟨#[98, 111, 120]⟩ then Rp.box E.l E.en p else if t.text = ⟨#[102, 110]⟩ then Rp.function E.l E.en p else if t.text = ⟨#[103, 101, 110]⟩ then Rp.generator E.l E.en p else Rp.task E.l E.en p) := by rw [hr.out, ht]; rfl
  clear ht
  go_enter Tryz.func37, Tryz.ntmps37
  go_wp2_with fail
  refine (peek_f E G p _ t _ (hide2 (h.out.alloc G _)) hp HT).mono ?_
  rintro e w0 ⟨rfl, hb0⟩
  have HG0 : Hid (w.grownBy w0 (some E.R)) := grown_tr (grown_alloc (grown_bel (Below.refl _ w)) _) (grown_bel hb0)
  have HD0 : Hid (Rdy E w0 p op) := (h.out.alloc G _).on G hb0
  have HZ0 : Hid (w0.heap[w.heap.size]? = some ZDf) := (hb0.block _ (by simp)).trans (heap_alloc_new w ZDf)
  have hw0 : w.heap.size < w0.heap.size := lt_of_block HZ0.out
  clear hb0
  have e0 := tok_text t.kind t.num t.pos t.text w0
  obtain ⟨b1, hb1⟩ : ∃ b, b = decide (t.text = ⟨#[98, 111, 120]⟩) := ⟨_, rfl⟩
  have e1 : (t.text.toList == [98, 111, 120]) = b1 := by rw [← (show ByteArray.toList ⟨#[98, 111, 120]⟩ = [98, 111, 120] by simp)]; exact beq_text hb1
  have c1 := hide2 hb1
  clear hb1
  cases b1 with
  | true =>
    have HR9 : Hid (r = Rp.box E.l E.en p) := by unfold Hid; rw [HRT.out, if_pos (by have := c1.out; simpa using this)]
    go_wp2_with fail
    refine (hX.out p r _ HD0 hp HR9).mono ?_
    rintro e w8 ⟨hg8, hf8⟩
    have HG8 : Hid (w.grownBy w8 (some E.R)) := grown_tr HG0.out hg8
    have hZ8 : w8.heap[w.heap.size]? = some ZDf := kept_on hg8 (by omega) HZ0.out
    cases r with
    | error er =>
      obtain ⟨e1, e2⟩ := er
      obtain ⟨rfl, hd8⟩ := hf8
      have HD8 := hide2 hd8
      clear hd8 hg8 hZ8
      go_wp2
      exact ⟨rfl, HG8.out, rfl, HD8.out⟩
    | ok qx =>
      obtain ⟨q, d⟩ := qx
      obtain ⟨⟨v, rfl, pa, pc, ba, bc, rfl, hq⟩, hd8⟩ := hf8
      have HD8 := hide2 hd8
      have HQ : Hid (DfQ (fun b => w.heap.size < b ∧ b < w8.heap.size) w8 d pa ba) := hq.keep (fun b hb => ⟨⟨by have := hb.1; omega, hb.2⟩, rfl⟩)
      obtain ⟨⟨z0, z1, z2, z3, z4, z5, z6, z7, z8⟩, y0, y1, y2, y3, y4, y5, y6, y7, y8⟩ := df_cells hZ8
      clear hd8 hg8 hq hZ8
      go_wp2
      refine bodyPost_ret (v := dffV d pa pc ba bc) (by simp [results, Tryz.results37, go_sem, z0, z1, z2, z3, z4, z5, z6, z7, z8]) rfl ?_
      exact df_end G h.out HG8.out HD8.out rfl HQ.out
  | false =>
    obtain ⟨b2, hb2⟩ : ∃ b, b = decide (t.text = ⟨#[102, 110]⟩) := ⟨_, rfl⟩
    have e2 : (t.text.toList == [102, 110]) = b2 := by rw [← (show ByteArray.toList ⟨#[102, 110]⟩ = [102, 110] by simp)]; exact beq_text hb2
    have c2 := hide2 hb2
    clear hb2
    cases b2 with
    | true =>
      have HR9 : Hid (r = Rp.function E.l E.en p) := by unfold Hid; rw [HRT.out, if_neg (by have := c1.out; simpa using this), if_pos (by have := c2.out; simpa using this)]
      go_wp2_with fail
      refine (hF.out p r _ HD0 hp HR9).mono ?_
      rintro e w8 ⟨hg8, hf8⟩
      have HG8 : Hid (w.grownBy w8 (some E.R)) := grown_tr HG0.out hg8
      have hZ8 : w8.heap[w.heap.size]? = some ZDf := kept_on hg8 (by omega) HZ0.out
      cases r with
      | error er =>
        obtain ⟨e1, e2⟩ := er
        obtain ⟨rfl, hd8⟩ := hf8
        have HD8 := hide2 hd8
        clear hd8 hg8 hZ8
        go_wp2
        exact ⟨rfl, HG8.out, rfl, HD8.out⟩
      | ok qx =>
        obtain ⟨q, d⟩ := qx
        obtain ⟨⟨v, rfl, pa, pc, ba, bc, rfl, hq⟩, hd8⟩ := hf8
        have HD8 := hide2 hd8
        have HQ : Hid (DfQ (fun b => w.heap.size < b ∧ b < w8.heap.size) w8 d pa ba) := hq.keep (fun b hb => ⟨⟨by have := hb.1; omega, hb.2⟩, rfl⟩)
        obtain ⟨⟨z0, z1, z2, z3, z4, z5, z6, z7, z8⟩, y0, y1, y2, y3, y4, y5, y6, y7, y8⟩ := df_cells hZ8
        clear hd8 hg8 hq hZ8
        go_wp2
        refine bodyPost_ret (v := dffV d pa pc ba bc) (by simp [results, Tryz.results37, go_sem, z0, z1, z2, z3, z4, z5, z6, z7, z8]) rfl ?_
        exact df_end G h.out HG8.out HD8.out rfl HQ.out
    | false =>
      obtain ⟨b3, hb3⟩ : ∃ b, b = decide (t.text = ⟨#[103, 101, 110]⟩) := ⟨_, rfl⟩
      have e3 : (t.text.toList == [103, 101, 110]) = b3 := by rw [← (show ByteArray.toList ⟨#[103, 101, 110]⟩ = [103, 101, 110] by simp)]; exact beq_text hb3
      have c3 := hide2 hb3
      clear hb3
      cases b3 with
      | true =>
        have HR9 : Hid (r = Rp.generator E.l E.en p) := by unfold Hid; rw [HRT.out, if_neg (by have := c1.out; simpa using this), if_neg (by have := c2.out; simpa using this), if_pos (by have := c3.out; simpa using this)]
        go_wp2_with fail
        refine (hN.out p r _ HD0 hp HR9).mono ?_
        rintro e w8 ⟨hg8, hf8⟩
        have HG8 : Hid (w.grownBy w8 (some E.R)) := grown_tr HG0.out hg8
        have hZ8 : w8.heap[w.heap.size]? = some ZDf := kept_on hg8 (by omega) HZ0.out
        cases r with
        | error er =>
          obtain ⟨e1, e2⟩ := er
          obtain ⟨rfl, hd8⟩ := hf8
          have HD8 := hide2 hd8
          clear hd8 hg8 hZ8
          go_wp2
          exact ⟨rfl, HG8.out, rfl, HD8.out⟩
        | ok qx =>
          obtain ⟨q, d⟩ := qx
          obtain ⟨⟨v, rfl, pa, pc, ba, bc, rfl, hq⟩, hd8⟩ := hf8
          have HD8 := hide2 hd8
          have HQ : Hid (DfQ (fun b => w.heap.size < b ∧ b < w8.heap.size) w8 d pa ba) := hq.keep (fun b hb => ⟨⟨by have := hb.1; omega, hb.2⟩, rfl⟩)
          obtain ⟨⟨z0, z1, z2, z3, z4, z5, z6, z7, z8⟩, y0, y1, y2, y3, y4, y5, y6, y7, y8⟩ := df_cells hZ8
          clear hd8 hg8 hq hZ8
          go_wp2
          refine bodyPost_ret (v := dffV d pa pc ba bc) (by simp [results, Tryz.results37, go_sem, z0, z1, z2, z3, z4, z5, z6, z7, z8]) rfl ?_
          exact df_end G h.out HG8.out HD8.out rfl HQ.out
      | false =>
        have HE0 : Hid (r = Rp.task E.l E.en p) := by unfold Hid; rw [HRT.out, if_neg (by have := c1.out; simpa using this), if_neg (by have := c2.out; simpa using this), if_neg (by have := c3.out; simpa using this)]
        obtain ⟨r1, hr1⟩ : ∃ r1, r1 = Rp.want E.l E.en ⟨#[116, 97, 115, 107]⟩ p := ⟨_, rfl⟩
        have HR1 := hide2 hr1
        have HE1 : Hid (r = Rp.andThen r1 fun q1 _ => Rp.andThen (Rp.name E.l E.en q1) fun q2 s => Rp.andThen (Rp.body E.l E.en 200 q2) fun q3 b => .ok (q3, ⟨4, s, Rp.T0, Rp.T0, 0, [], b⟩)) := by rw [HE0.out, hr1]; rfl
        have HA1 : Hid (∀ q x, r1 = .ok (q, x) → q ≤ E.l.length) := fun q x hx => (Rp.want_adv E.l E.en _ p q x hp (by rw [← hr1, hx])).2
        clear hr1
        go_wp2_with fail
        refine (want_f E G p _ ⟨#[116, 97, 115, 107]⟩ r1 _ HD0 hp HR1).mono ?_
        rintro e w1 ⟨hg1, hf1⟩
        have HG1 : Hid (w.grownBy w1 (some E.R)) := grown_tr HG0.out hg1
        have hs1 := hg1.size
        (try simp only [asz] at hs1)
        (try simp only [World.setCell_size] at hs1)
        have HZ1 : Hid (w1.heap[w.heap.size]? = some ZDf) := kept_on hg1 (by omega) HZ0.out
        clear hg1
        cases r1 with
        | error er =>
          obtain ⟨e1, e2⟩ := er
          obtain ⟨rfl, hd1⟩ := hf1
          have HD1 := hide2 hd1
          have HRr : Hid (r = .error (e1, e2)) := HE1.out
          clear hd1
          go_wp2
          exact ⟨rfl, HG1.out, by rw [HRr.out]; exact ⟨rfl, HD1.out⟩⟩
        | ok qx =>
          obtain ⟨q1, u1⟩ := qx
          obtain ⟨⟨v, rfl, rfl⟩, hd1⟩ := hf1
          have hq1 : q1 ≤ E.l.length := HA1.out q1 u1 rfl
          have HD1 := hide2 hd1
          clear hd1
          obtain ⟨r2, hr2⟩ : ∃ r2, r2 = Rp.name E.l E.en q1 := ⟨_, rfl⟩
          have HR2 := hide2 hr2
          have HE2 : Hid (r = Rp.andThen r2 fun q2 s => Rp.andThen (Rp.body E.l E.en 200 q2) fun q3 b => .ok (q3, ⟨4, s, Rp.T0, Rp.T0, 0, [], b⟩)) := by rw [HE1.out, hr2]; rfl
          have HA2 : Hid (∀ q x, r2 = .ok (q, x) → q ≤ E.l.length) := fun q x hx => (Rp.name_adv E.l E.en q1 q x hq1 (by rw [← hr2, hx])).2
          clear hr2
          go_wp2_with fail
          refine (name_f E G q1 _ r2 _ HD1 hq1 HR2).mono ?_
          rintro e w2 ⟨hg2, hf2⟩
          have HG2 : Hid (w.grownBy w2 (some E.R)) := grown_tr HG1.out hg2
          have hs2 := hg2.size
          (try simp only [asz] at hs2)
          (try simp only [World.setCell_size] at hs2)
          have HZ2 : Hid (w2.heap[w.heap.size]? = some ZDf) := kept_on hg2 (by omega) HZ1.out
          clear hg2
          cases r2 with
          | error er =>
            obtain ⟨e1, e2⟩ := er
            obtain ⟨rfl, hd2⟩ := hf2
            have HD2 := hide2 hd2
            have HRr : Hid (r = .error (e1, e2)) := HE2.out
            clear hd2
            go_wp2
            exact ⟨rfl, HG2.out, by rw [HRr.out]; exact ⟨rfl, HD2.out⟩⟩
          | ok qx =>
            obtain ⟨q2, s⟩ := qx
            obtain ⟨⟨v, rfl, rfl, hs⟩, hd2⟩ := hf2
            have hq2 : q2 ≤ E.l.length := HA2.out q2 s rfl
            have hwS : w.heap.size < w2.heap.size := lt_of_block HZ2.out
            have HDT2 : Hid (Rdy E (w2.alloc (dffO 4 s 0 ⟨#[]⟩ 0 ⟨#[]⟩ 0 (.slice none 0 0) (.slice none 0 0))) q2 op) := hd2.alloc G _
            have HGT2 : Hid (w.grownBy (w2.alloc (dffO 4 s 0 ⟨#[]⟩ 0 ⟨#[]⟩ 0 (.slice none 0 0) (.slice none 0 0))) (some E.R)) := grown_alloc HG2.out _
            have HZT2 : Hid ((w2.alloc (dffO 4 s 0 ⟨#[]⟩ 0 ⟨#[]⟩ 0 (.slice none 0 0) (.slice none 0 0))).heap[w.heap.size]? = some ZDf) := (Below.heap_alloc _ _ _ hwS).trans HZ2.out
            have HST2 : Hid ((w2.alloc (dffO 4 s 0 ⟨#[]⟩ 0 ⟨#[]⟩ 0 (.slice none 0 0) (.slice none 0 0))).heap[w2.heap.size]? = some (dffO 4 s 0 ⟨#[]⟩ 0 ⟨#[]⟩ 0 (.slice none 0 0) (.slice none 0 0))) := heap_alloc_new w2 _
            clear hd2
            obtain ⟨r3, hr3⟩ : ∃ r3, r3 = Rp.body E.l E.en 200 q2 := ⟨_, rfl⟩
            have HR3 := hide2 hr3
            have HE3 : Hid (r = Rp.andThen r3 fun q3 b => .ok (q3, ⟨4, s, Rp.T0, Rp.T0, 0, [], b⟩)) := by rw [HE2.out, hr3]; rfl
            have HA3 : Hid (∀ q x, r3 = .ok (q, x) → q ≤ E.l.length) := fun q x hx => (Rp.body_adv E.l E.en 200 q2 q x hq2 (by rw [← hr3, hx])).2
            clear hr3
            go_wp2_with fail
            refine (hB.out q2 r3 _ HDT2 hq2 HR3).mono ?_
            rintro e w3 ⟨hg3, hf3⟩
            have HG3 : Hid (w.grownBy w3 (some E.R)) := grown_tr HGT2.out hg3
            have hs3 := hg3.size
            (try simp only [asz] at hs3)
            (try simp only [World.setCell_size] at hs3)
            have HZ3 : Hid (w3.heap[w.heap.size]? = some ZDf) := kept_on hg3 (by omega) HZT2.out
            have HS3 : Hid (w3.heap[w2.heap.size]? = some (dffO 4 s 0 ⟨#[]⟩ 0 ⟨#[]⟩ 0 (.slice none 0 0) (.slice none 0 0))) := kept_on hg3 (by omega) HST2.out
            clear hg3
            cases r3 with
            | error er =>
              obtain ⟨e1, e2⟩ := er
              obtain ⟨rfl, hd3⟩ := hf3
              have HD3 := hide2 hd3
              have HRr : Hid (r = .error (e1, e2)) := HE3.out
              clear hd3
              go_wp2
              exact ⟨rfl, HG3.out, by rw [HRr.out]; exact ⟨rfl, HD3.out⟩⟩
            | ok qx =>
              obtain ⟨q3, b⟩ := qx
              obtain ⟨⟨v, rfl, ba, bc, m, rfl, hbl, hrow⟩, hd3⟩ := hf3
              have hq3 : q3 ≤ E.l.length := HA3.out q3 b rfl
              have HROW : Hid (RowQ (fun j => (w2.heap.size + 1) ≤ j ∧ j < w3.heap.size) w3 (StQ (fun j => (w2.heap.size + 1) ≤ j ∧ j < w3.heap.size) w3 m) b ba) :=
                have h2 : ∀ j, Mad (w2.alloc (dffO 4 s 0 ⟨#[]⟩ 0 ⟨#[]⟩ 0 (.slice none 0 0) (.slice none 0 0))) w3 j → ((w2.heap.size + 1) ≤ j ∧ j < w3.heap.size) ∧ w3.heap[j]? = w3.heap[j]? := fun j hj => ⟨⟨by have h1 := hj.1; (try simp only [asz] at h1); (try simp only [World.setCell_size] at h1); exact h1, hj.2⟩, rfl⟩
                RowQ.keep h2 (fun _ _ _ _ hx => StQ.keep h2 hx) hrow
              have HKB : Hid (Kept (w2.heap.size + 1) w3.heap.size w3 w3) := Kept.refl _ _ _
              clear hrow
              have HGT3 : Hid (w.grownBy (w3.setCell ⟨w2.heap.size, 8, none⟩ (.slice ba b.length bc)) (some E.R)) := grown_set' (HG3.out) (Nat.le_of_lt hwS) _
              have HDT3 : Hid (Rdy E (w3.setCell ⟨w2.heap.size, 8, none⟩ (.slice ba b.length bc)) q3 op) := Rdy.set h.out (hd3) G (HG3.out) (a := ⟨w2.heap.size, 8, none⟩) (Nat.le_of_lt hwS) _
              have HZT3 : Hid ((w3.setCell ⟨w2.heap.size, 8, none⟩ (.slice ba b.length bc)).heap[w.heap.size]? = some ZDf) := (Below.heap_setCell _ ⟨w2.heap.size, 8, none⟩ _ _ (by show w.heap.size ≠ w2.heap.size; omega)).trans (HZ3.out)
              have HST3 : Hid ((w3.setCell ⟨w2.heap.size, 8, none⟩ (.slice ba b.length bc)).heap[w2.heap.size]? = some (dffO 4 s 0 ⟨#[]⟩ 0 ⟨#[]⟩ 0 (.slice none 0 0) (.slice ba b.length bc))) := df_set8 HS3.out _
              have HKB_T3 : Hid (Kept (w2.heap.size + 1) w3.heap.size w3 (w3.setCell ⟨w2.heap.size, 8, none⟩ (.slice ba b.length bc))) := (HKB.out).set (p := ⟨w2.heap.size, 8, none⟩) (.inl (by show w2.heap.size < _; omega)) _
              obtain ⟨⟨x0, x1, x2, x3, x4, x5, x6, x7, x8⟩, f0, f1, f2, f3, f4, f5, f6, f7, f8⟩ := df_cells HS3.out
              clear hd3
              have HRr : Hid (r = .ok (q3, ⟨4, s, Rp.T0, Rp.T0, 0, [], b⟩)) := HE3.out
              obtain ⟨⟨z0, z1, z2, z3, z4, z5, z6, z7, z8⟩, y0, y1, y2, y3, y4, y5, y6, y7, y8⟩ := df_cells HZ3.out
              have hne : w.heap.size ≠ w2.heap.size := by omega
              go_wp2
              refine bodyPost_ret (v := dffV ⟨4, s, Rp.T0, Rp.T0, 0, [], b⟩ none 0 ba bc) (by simp [results, Tryz.results37, go_sem, z0, z1, z2, z3, z4, z5, z6, z7, z8]) rfl ?_
              exact df_end G h.out HGT3.out HDT3.out HRr.out ⟨hs, (by show (ByteArray.mk #[]).size ≤ 6000; decide), (by show (ByteArray.mk #[]).size ≤ 6000; decide), (PmsQ.nil _ _ _), hbl, m, HROW.out.later HKB_T3.out (by omega) (by (try simp only [World.setCell_size]); omega)⟩

end Go.Proofs.YtlnikpcoejpknaaGreatDoor

