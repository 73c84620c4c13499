/- How programs lie in memory. -/
import Derived.Test.YtbbklahhnepiaaaDoorSy
namespace Go.Proofs.YtbbklahhnepiaaaDoor
open Go.RowKit

abbrev exV (x : Sy.Ex) (a : Option Addr) (c : Nat) : Value := .agg #[.int .i64 x.kind, .int .i64 x.n, .string x.name, .slice a x.kids.length c]
abbrev tyV (t : Sy.Ty) : Value := .agg #[.int .i64 t.kind, .string t.gen]
abbrev stV (s : Sy.St) (xa : Option Addr) (xc : Nat) (ba : Option Addr) (bc : Nat) (ea : Option Addr) (ec : Nat) : Value :=
  .agg #[.int .i64 s.kind, .string s.name, .int .i64 s.x.kind, .int .i64 s.x.n, .string s.x.name, .slice xa s.x.kids.length xc, .slice ba s.body.length bc, .slice ea s.els.length ec]
abbrev dfV (d : Sy.Df) (pa : Option Addr) (pc : Nat) (ba : Option Addr) (bc : Nat) : Value :=
  .agg #[.int .i64 d.kind, .string d.name, .int .i64 d.ty.kind, .string d.ty.gen, .int .i64 d.takes.kind, .string d.takes.gen, .int .i64 d.cap, .slice pa d.params.length pc, .slice ba d.body.length bc]

/-- An expression's kids lie below block B (h levels of them). -/
def ExIn (B : Nat) (w : World) : Nat → Sy.Ex → Option Addr → Prop
  | 0, _, _ => False
  | h + 1, x, a => x.name.size ≤ maxLen ∧ x.kids.length ≤ maxLen ∧ ∀ i k, x.kids[i]? = some k → ∃ b off a' c', a = some ⟨b, off, none⟩ ∧ b < B ∧
      w.cell? ⟨b, off + i * 4, none⟩ = some (.int .i64 k.kind) ∧ w.cell? ⟨b, off + i * 4 + 1, none⟩ = some (.int .i64 k.n) ∧ w.cell? ⟨b, off + i * 4 + 2, none⟩ = some (.string k.name) ∧
      w.cell? ⟨b, off + i * 4 + 3, none⟩ = some (.slice a' k.kids.length c') ∧ ExIn B w h k a'

/-- Statements lie at a, each as P says. -/
def RowIn (B : Nat) (w : World) (P : Sy.St → Option Addr → Option Addr → Option Addr → Prop) (l : List Sy.St) (a : Option Addr) : Prop :=
  ∀ i s, l[i]? = some s → ∃ b off xa xc ba bc ea ec, a = some ⟨b, off, none⟩ ∧ b < B ∧
      w.cell? ⟨b, off + i * 8, none⟩ = some (.int .i64 s.kind) ∧ w.cell? ⟨b, off + i * 8 + 1, none⟩ = some (.string s.name) ∧
      w.cell? ⟨b, off + i * 8 + 2, none⟩ = some (.int .i64 s.x.kind) ∧ w.cell? ⟨b, off + i * 8 + 3, none⟩ = some (.int .i64 s.x.n) ∧ w.cell? ⟨b, off + i * 8 + 4, none⟩ = some (.string s.x.name) ∧
      w.cell? ⟨b, off + i * 8 + 5, none⟩ = some (.slice xa s.x.kids.length xc) ∧ w.cell? ⟨b, off + i * 8 + 6, none⟩ = some (.slice ba s.body.length bc) ∧
      w.cell? ⟨b, off + i * 8 + 7, none⟩ = some (.slice ea s.els.length ec) ∧ P s xa ba ea

def StIn (B : Nat) (w : World) : Nat → Sy.St → Option Addr → Option Addr → Option Addr → Prop
  | 0, _, _, _, _ => False
  | h + 1, s, xa, ba, ea => s.name.size ≤ maxLen ∧ (∃ hx, ExIn B w hx s.x xa) ∧ s.body.length ≤ maxLen ∧ s.els.length ≤ maxLen ∧ RowIn B w (StIn B w h) s.body ba ∧ RowIn B w (StIn B w h) s.els ea

/-- Statements of a body. -/
def BodyIn (B : Nat) (w : World) (h : Nat) (l : List Sy.St) (a : Option Addr) : Prop := l.length ≤ maxLen ∧ RowIn B w (StIn B w h) l a

def PmsIn (B : Nat) (w : World) (l : List Sy.Pm) (a : Option Addr) : Prop :=
  l.length ≤ maxLen ∧ ∀ i p, l[i]? = some p → ∃ b off, a = some ⟨b, off, none⟩ ∧ b < B ∧ w.cell? ⟨b, off + i * 3, none⟩ = some (.string p.name) ∧
      w.cell? ⟨b, off + i * 3 + 1, none⟩ = some (.int .i64 p.ty.kind) ∧ w.cell? ⟨b, off + i * 3 + 2, none⟩ = some (.string p.ty.gen) ∧ p.name.size ≤ maxLen ∧ p.ty.gen.size ≤ maxLen

def DfIn (B : Nat) (w : World) (d : Sy.Df) (pa ba : Option Addr) : Prop :=
  d.name.size ≤ maxLen ∧ d.ty.gen.size ≤ maxLen ∧ d.takes.gen.size ≤ maxLen ∧ PmsIn B w d.params pa ∧ ∃ h, BodyIn B w h d.body ba

/-- Definitions lie at a. -/
def DfsIn (B : Nat) (w : World) (l : List Sy.Df) (a : Option Addr) : Prop :=
  l.length ≤ maxLen ∧ ∀ i d, l[i]? = some d → ∃ b off pa pc ba bc, a = some ⟨b, off, none⟩ ∧ b < B ∧
      w.cell? ⟨b, off + i * 9, none⟩ = some (.int .i64 d.kind) ∧ w.cell? ⟨b, off + i * 9 + 1, none⟩ = some (.string d.name) ∧
      w.cell? ⟨b, off + i * 9 + 2, none⟩ = some (.int .i64 d.ty.kind) ∧ w.cell? ⟨b, off + i * 9 + 3, none⟩ = some (.string d.ty.gen) ∧
      w.cell? ⟨b, off + i * 9 + 4, none⟩ = some (.int .i64 d.takes.kind) ∧ w.cell? ⟨b, off + i * 9 + 5, none⟩ = some (.string d.takes.gen) ∧
      w.cell? ⟨b, off + i * 9 + 6, none⟩ = some (.int .i64 d.cap) ∧ w.cell? ⟨b, off + i * 9 + 7, none⟩ = some (.slice pa d.params.length pc) ∧
      w.cell? ⟨b, off + i * 9 + 8, none⟩ = some (.slice ba d.body.length bc) ∧ DfIn B w d pa ba

/-- Below B all cells read as they did. -/
def Same (B : Nat) (w w' : World) : Prop := ∀ b o, b < B → w'.cell? ⟨b, o, none⟩ = w.cell? ⟨b, o, none⟩

theorem Same.refl (B : Nat) (w : World) : Same B w w := fun _ _ _ => rfl
theorem Same.trans {B : Nat} {a b c : World} (h : Same B a b) (k : Same B b c) : Same B a c := fun i o hi => (k i o hi).trans (h i o hi)
theorem same_grown {B : Nat} {C : Option Nat} {w w' : World} (hg : w.grownBy w' C) (hB : ∀ c, C = some c → B ≤ c) (hs : B ≤ w.heap.size) : Same B w w' :=
  fun b o hb => World.cell?_of_block (w := w) (hg.block b (by omega) (fun e => by have := hB b e.symm; omega))
theorem same_below {B : Nat} {w w' : World} (h : Below B w w') : Same B w w' := fun b o hb => h.cell (p := ⟨b, o, none⟩) hb

theorem ExIn.same {B : Nat} {w w' : World} (hs : Same B w w') : ∀ (h : Nat) (x : Sy.Ex) (a : Option Addr), ExIn B w h x a → ExIn B w' h x a
  | 0, _, _, h => h
  | h + 1, x, a, ⟨h1, h2, h3⟩ => ⟨h1, h2, fun i k hk => by
      obtain ⟨b, off, a', c', ha, hb, c0, c1, c2, c3, hin⟩ := h3 i k hk
      exact ⟨b, off, a', c', ha, hb, (hs _ _ hb).trans c0, (hs _ _ hb).trans c1, (hs _ _ hb).trans c2, (hs _ _ hb).trans c3, ExIn.same hs h k a' hin⟩⟩

theorem RowIn.same {B : Nat} {w w' : World} (hs : Same B w w') {P P' : Sy.St → Option Addr → Option Addr → Option Addr → Prop} (hP : ∀ s x b e, P s x b e → P' s x b e)
    {l : List Sy.St} {a : Option Addr} (h : RowIn B w P l a) : RowIn B w' P' l a := fun i s hi => by
  obtain ⟨b, off, xa, xc, ba, bc, ea, ec, ha, hb, c0, c1, c2, c3, c4, c5, c6, c7, hin⟩ := h i s hi
  exact ⟨b, off, xa, xc, ba, bc, ea, ec, ha, hb, (hs _ _ hb).trans c0, (hs _ _ hb).trans c1, (hs _ _ hb).trans c2, (hs _ _ hb).trans c3, (hs _ _ hb).trans c4, (hs _ _ hb).trans c5, (hs _ _ hb).trans c6, (hs _ _ hb).trans c7, hP _ _ _ _ hin⟩

theorem StIn.same {B : Nat} {w w' : World} (hs : Same B w w') : ∀ (h : Nat) (s : Sy.St) (xa ba ea : Option Addr), StIn B w h s xa ba ea → StIn B w' h s xa ba ea
  | 0, _, _, _, _, h => h
  | h + 1, _, _, _, _, ⟨h1, ⟨hx, h2⟩, h3, h4, h5, h6⟩ => ⟨h1, ⟨hx, h2.same hs⟩, h3, h4, h5.same hs (fun s x b e => StIn.same hs h s x b e), h6.same hs (fun s x b e => StIn.same hs h s x b e)⟩

theorem BodyIn.same {B : Nat} {w w' : World} (hs : Same B w w') {h : Nat} {l : List Sy.St} {a : Option Addr} (hb : BodyIn B w h l a) : BodyIn B w' h l a :=
  ⟨hb.1, hb.2.same hs (fun s x b e => StIn.same hs h s x b e)⟩

theorem PmsIn.same {B : Nat} {w w' : World} (hs : Same B w w') {l : List Sy.Pm} {a : Option Addr} (h : PmsIn B w l a) : PmsIn B w' l a :=
  ⟨h.1, fun i p hi => by
    obtain ⟨b, off, ha, hb, c0, c1, c2, r⟩ := h.2 i p hi
    exact ⟨b, off, ha, hb, (hs _ _ hb).trans c0, (hs _ _ hb).trans c1, (hs _ _ hb).trans c2, r⟩⟩

theorem DfIn.same {B : Nat} {w w' : World} (hs : Same B w w') {d : Sy.Df} {pa ba : Option Addr} (h : DfIn B w d pa ba) : DfIn B w' d pa ba :=
  ⟨h.1, h.2.1, h.2.2.1, h.2.2.2.1.same hs, h.2.2.2.2.elim fun k hk => ⟨k, hk.same hs⟩⟩

theorem DfsIn.same {B : Nat} {w w' : World} (hs : Same B w w') {l : List Sy.Df} {a : Option Addr} (h : DfsIn B w l a) : DfsIn B w' l a :=
  ⟨h.1, fun i d hi => by
    obtain ⟨b, off, pa, pc, ba, bc, ha, hb, c0, c1, c2, c3, c4, c5, c6, c7, c8, hin⟩ := h.2 i d hi
    exact ⟨b, off, pa, pc, ba, bc, ha, hb, (hs _ _ hb).trans c0, (hs _ _ hb).trans c1, (hs _ _ hb).trans c2, (hs _ _ hb).trans c3, (hs _ _ hb).trans c4, (hs _ _ hb).trans c5, (hs _ _ hb).trans c6, (hs _ _ hb).trans c7, (hs _ _ hb).trans c8, hin.same hs⟩⟩

theorem two_cell {w : World} {b : Nat} {v0 v1 : Value} {t : TypeId} (h : w.heap[b]? = some (.cells #[v0, v1] t (0, 0))) :
    w.cell? ⟨b, 0, none⟩ = some v0 ∧ w.cell? ⟨b, 1, none⟩ = some v1 ∧ w.frozen? ⟨b, 0, none⟩ = false ∧ w.frozen? ⟨b, 1, none⟩ = false := by simp [World.cell?, World.frozen?, h]

/-- The checker lies in block C: at which definition, and how many nodes so far. -/
def CK (w : World) (C : Nat) (num : Int) (n : Nat) : Prop := w.heap[C]? = some (.cells #[.int .i64 num, .int .i64 n] 52 (0, 0))

theorem CK.cells {w : World} {C n : Nat} {num : Int} (h : CK w C num n) :
    w.cell? ⟨C, 0, none⟩ = some (.int .i64 num) ∧ w.cell? ⟨C, 1, none⟩ = some (.int .i64 n) ∧ w.frozen? ⟨C, 0, none⟩ = false ∧ w.frozen? ⟨C, 1, none⟩ = false := two_cell h

theorem CK.lt {w : World} {C n : Nat} {num : Int} (h : CK w C num n) : C < w.heap.size := lt_of_block h

theorem grown_at (w : World) (b o : Nat) (v : Value) : w.grownBy (w.setCell ⟨b, o, none⟩ v) (some b) :=
  ⟨rfl, rfl, rfl, by simp [World.setCell], fun k _ hne => Below.heap_setCell _ _ _ _ (by intro h; apply hne; simp [h])⟩

theorem CK.set1 {w : World} {C n m : Nat} {num : Int} (h : CK w C num n) {v : Int} (hv : v = m) : CK (w.setCell ⟨C, 1, none⟩ (.int .i64 v)) C num m := by
  subst hv
  have hl := h.lt
  unfold CK at *
  simp only [World.setCell, Array.getElem?_modify, if_true, h, Option.map_some]
  rfl

theorem CK.set0 {w : World} {C n : Nat} {num v : Int} (h : CK w C num n) : CK (w.setCell ⟨C, 0, none⟩ (.int .i64 v)) C v n := by
  unfold CK at *
  simp only [World.setCell, Array.getElem?_modify, if_true, h, Option.map_some]
  rfl

theorem CK.keep {w w' : World} {C n : Nat} {num : Int} {r : Option Nat} (h : CK w C num n) (hg : w.grownBy w' r) (hr : r ≠ some C) : CK w' C num n := (hg.block C h.lt (fun e => hr e.symm)).trans h

abbrev fltE (er num : Int) : PanicEntry := { v := .iface 25 (.agg #[.int .i64 er, .int .i64 num]), recovered := false }

/-- What comes of a look: the count goes on, or the fault is thrown. -/
def Fate (C : Nat) (num : Int) (r : Except Int Nat) (e : Ending) (w' : World) : Prop :=
  match r with
  | .ok m => e = .returned (.tuple #[]) ∧ CK w' C num m
  | .error er => e = .panicked [fltE er num]

/-- Likewise of one that counts nothing. -/
def Fate0 (num er : Int) (w : World) (e : Ending) (w' : World) : Prop := w.grownBy w' none ∧ e = if er = 0 then .returned (.tuple #[]) else .panicked [fltE er num]

end Go.Proofs.YtbbklahhnepiaaaDoor
