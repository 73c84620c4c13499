/- How programs lie in memory. -/
import Derived.Test.YtlnikpcoejpknaaGreatDoorM1
import Derived.WalkKit
import Derived.WalkSpells
import Derived.WalkLawsBesides
namespace Go.Proofs.YtlnikpcoejpknaaGreatDoor
open Go.RowKit

abbrev exV (x : Sy.Ex) (a : Option Addr) (c : Nat) : Value := .agg #[.int .i64 x.kind, .int .i64 x.n, .string x.name, .slice a x.kids.length c]
abbrev tyV (t : Sy.Ty) : Value := .agg #[.int .i64 t.kind, .string t.gen]
abbrev stV (s : Sy.St) (xa : Option Addr) (xc : Nat) (ba : Option Addr) (bc : Nat) (ea : Option Addr) (ec : Nat) : Value :=
  .agg #[.int .i64 s.kind, .string s.name, .int .i64 s.x.kind, .int .i64 s.x.n, .string s.x.name, .slice xa s.x.kids.length xc, .slice ba s.body.length bc, .slice ea s.els.length ec]
abbrev dfV (d : Sy.Df) (pa : Option Addr) (pc : Nat) (ba : Option Addr) (bc : Nat) : Value :=
  .agg #[.int .i64 d.kind, .string d.name, .int .i64 d.ty.kind, .string d.ty.gen, .int .i64 d.takes.kind, .string d.takes.gen, .int .i64 d.cap, .slice pa d.params.length pc, .slice ba d.body.length bc]

/-- An expression's kids lie below block B (h levels of them). -/
def ExIn (B : Nat) (w : World) : Nat → Sy.Ex → Option Addr → Prop
  | 0, _, _ => False
  | h + 1, x, a => x.name.size ≤ maxLen ∧ x.kids.length ≤ maxLen ∧ ∀ i k, x.kids[i]? = some k → ∃ b off a' c', a = some ⟨b, off, none⟩ ∧ b < B ∧
      w.cell? ⟨b, off + i * 4, none⟩ = some (.int .i64 k.kind) ∧ w.cell? ⟨b, off + i * 4 + 1, none⟩ = some (.int .i64 k.n) ∧ w.cell? ⟨b, off + i * 4 + 2, none⟩ = some (.string k.name) ∧
      w.cell? ⟨b, off + i * 4 + 3, none⟩ = some (.slice a' k.kids.length c') ∧ ExIn B w h k a'

/-- Statements lie at a, each as P says. -/
def RowIn (B : Nat) (w : World) (P : Sy.St → Option Addr → Option Addr → Option Addr → Prop) (l : List Sy.St) (a : Option Addr) : Prop :=
  ∀ i s, l[i]? = some s → ∃ b off xa xc ba bc ea ec, a = some ⟨b, off, none⟩ ∧ b < B ∧
      w.cell? ⟨b, off + i * 8, none⟩ = some (.int .i64 s.kind) ∧ w.cell? ⟨b, off + i * 8 + 1, none⟩ = some (.string s.name) ∧
      w.cell? ⟨b, off + i * 8 + 2, none⟩ = some (.int .i64 s.x.kind) ∧ w.cell? ⟨b, off + i * 8 + 3, none⟩ = some (.int .i64 s.x.n) ∧ w.cell? ⟨b, off + i * 8 + 4, none⟩ = some (.string s.x.name) ∧
      w.cell? ⟨b, off + i * 8 + 5, none⟩ = some (.slice xa s.x.kids.length xc) ∧ w.cell? ⟨b, off + i * 8 + 6, none⟩ = some (.slice ba s.body.length bc) ∧
      w.cell? ⟨b, off + i * 8 + 7, none⟩ = some (.slice ea s.els.length ec) ∧ P s xa ba ea

def StIn (B : Nat) (w : World) : Nat → Sy.St → Option Addr → Option Addr → Option Addr → Prop
  | 0, _, _, _, _ => False
  | h + 1, s, xa, ba, ea => s.name.size ≤ maxLen ∧ (∃ hx, ExIn B w hx s.x xa) ∧ s.body.length ≤ maxLen ∧ s.els.length ≤ maxLen ∧ RowIn B w (StIn B w h) s.body ba ∧ RowIn B w (StIn B w h) s.els ea

/-- Statements of a body. -/
def BodyIn (B : Nat) (w : World) (h : Nat) (l : List Sy.St) (a : Option Addr) : Prop := l.length ≤ maxLen ∧ RowIn B w (StIn B w h) l a

def PmsIn (B : Nat) (w : World) (l : List Sy.Pm) (a : Option Addr) : Prop :=
  l.length ≤ maxLen ∧ ∀ i p, l[i]? = some p → ∃ b off, a = some ⟨b, off, none⟩ ∧ b < B ∧ w.cell? ⟨b, off + i * 3, none⟩ = some (.string p.name) ∧
      w.cell? ⟨b, off + i * 3 + 1, none⟩ = some (.int .i64 p.ty.kind) ∧ w.cell? ⟨b, off + i * 3 + 2, none⟩ = some (.string p.ty.gen) ∧ p.name.size ≤ maxLen ∧ p.ty.gen.size ≤ maxLen

def DfIn (B : Nat) (w : World) (d : Sy.Df) (pa ba : Option Addr) : Prop :=
  d.name.size ≤ maxLen ∧ d.ty.gen.size ≤ maxLen ∧ d.takes.gen.size ≤ maxLen ∧ PmsIn B w d.params pa ∧ ∃ h, BodyIn B w h d.body ba

/-- Definitions lie at a. -/
def DfsIn (B : Nat) (w : World) (l : List Sy.Df) (a : Option Addr) : Prop :=
  l.length ≤ maxLen ∧ ∀ i d, l[i]? = some d → ∃ b off pa pc ba bc, a = some ⟨b, off, none⟩ ∧ b < B ∧
      w.cell? ⟨b, off + i * 9, none⟩ = some (.int .i64 d.kind) ∧ w.cell? ⟨b, off + i * 9 + 1, none⟩ = some (.string d.name) ∧
      w.cell? ⟨b, off + i * 9 + 2, none⟩ = some (.int .i64 d.ty.kind) ∧ w.cell? ⟨b, off + i * 9 + 3, none⟩ = some (.string d.ty.gen) ∧
      w.cell? ⟨b, off + i * 9 + 4, none⟩ = some (.int .i64 d.takes.kind) ∧ w.cell? ⟨b, off + i * 9 + 5, none⟩ = some (.string d.takes.gen) ∧
      w.cell? ⟨b, off + i * 9 + 6, none⟩ = some (.int .i64 d.cap) ∧ w.cell? ⟨b, off + i * 9 + 7, none⟩ = some (.slice pa d.params.length pc) ∧
      w.cell? ⟨b, off + i * 9 + 8, none⟩ = some (.slice ba d.body.length bc) ∧ DfIn B w d pa ba

/-- Below B all cells read as they did. -/
def Same (B : Nat) (w w' : World) : Prop := ∀ b o, b < B → w'.cell? ⟨b, o, none⟩ = w.cell? ⟨b, o, none⟩

theorem Same.refl (B : Nat) (w : World) : Same B w w := fun _ _ _ => rfl
theorem Same.trans {B : Nat} {a b c : World} (h : Same B a b) (k : Same B b c) : Same B a c := fun i o hi => (k i o hi).trans (h i o hi)
theorem same_grown {B : Nat} {C : Option Nat} {w w' : World} (hg : w.grownBy w' C) (hB : ∀ c, C = some c → B ≤ c) (hs : B ≤ w.heap.size) : Same B w w' :=
  fun b o hb => World.cell?_of_block (w := w) (hg.block b (by omega) (fun e => by have := hB b e.symm; omega))
theorem same_below {B : Nat} {w w' : World} (h : Below B w w') : Same B w w' := fun b o hb => h.cell (p := ⟨b, o, none⟩) hb

theorem ExIn.same {B : Nat} {w w' : World} (hs : Same B w w') : ∀ (h : Nat) (x : Sy.Ex) (a : Option Addr), ExIn B w h x a → ExIn B w' h x a
  | 0, _, _, h => h
  | h + 1, x, a, ⟨h1, h2, h3⟩ => ⟨h1, h2, fun i k hk => by
      obtain ⟨b, off, a', c', ha, hb, c0, c1, c2, c3, hin⟩ := h3 i k hk
      exact ⟨b, off, a', c', ha, hb, (hs _ _ hb).trans c0, (hs _ _ hb).trans c1, (hs _ _ hb).trans c2, (hs _ _ hb).trans c3, ExIn.same hs h k a' hin⟩⟩

theorem RowIn.same {B : Nat} {w w' : World} (hs : Same B w w') {P P' : Sy.St → Option Addr → Option Addr → Option Addr → Prop} (hP : ∀ s x b e, P s x b e → P' s x b e)
    {l : List Sy.St} {a : Option Addr} (h : RowIn B w P l a) : RowIn B w' P' l a := fun i s hi => by
  obtain ⟨b, off, xa, xc, ba, bc, ea, ec, ha, hb, c0, c1, c2, c3, c4, c5, c6, c7, hin⟩ := h i s hi
  exact ⟨b, off, xa, xc, ba, bc, ea, ec, ha, hb, (hs _ _ hb).trans c0, (hs _ _ hb).trans c1, (hs _ _ hb).trans c2, (hs _ _ hb).trans c3, (hs _ _ hb).trans c4, (hs _ _ hb).trans c5, (hs _ _ hb).trans c6, (hs _ _ hb).trans c7, hP _ _ _ _ hin⟩

theorem StIn.same {B : Nat} {w w' : World} (hs : Same B w w') : ∀ (h : Nat) (s : Sy.St) (xa ba ea : Option Addr), StIn B w h s xa ba ea → StIn B w' h s xa ba ea
  | 0, _, _, _, _, h => h
  | h + 1, _, _, _, _, ⟨h1, ⟨hx, h2⟩, h3, h4, h5, h6⟩ => ⟨h1, ⟨hx, h2.same hs⟩, h3, h4, h5.same hs (fun s x b e => StIn.same hs h s x b e), h6.same hs (fun s x b e => StIn.same hs h s x b e)⟩

theorem BodyIn.same {B : Nat} {w w' : World} (hs : Same B w w') {h : Nat} {l : List Sy.St} {a : Option Addr} (hb : BodyIn B w h l a) : BodyIn B w' h l a :=
  ⟨hb.1, hb.2.same hs (fun s x b e => StIn.same hs h s x b e)⟩

theorem PmsIn.same {B : Nat} {w w' : World} (hs : Same B w w') {l : List Sy.Pm} {a : Option Addr} (h : PmsIn B w l a) : PmsIn B w' l a :=
  ⟨h.1, fun i p hi => by
    obtain ⟨b, off, ha, hb, c0, c1, c2, r⟩ := h.2 i p hi
    exact ⟨b, off, ha, hb, (hs _ _ hb).trans c0, (hs _ _ hb).trans c1, (hs _ _ hb).trans c2, r⟩⟩

theorem DfIn.same {B : Nat} {w w' : World} (hs : Same B w w') {d : Sy.Df} {pa ba : Option Addr} (h : DfIn B w d pa ba) : DfIn B w' d pa ba :=
  ⟨h.1, h.2.1, h.2.2.1, h.2.2.2.1.same hs, h.2.2.2.2.elim fun k hk => ⟨k, hk.same hs⟩⟩

theorem DfsIn.same {B : Nat} {w w' : World} (hs : Same B w w') {l : List Sy.Df} {a : Option Addr} (h : DfsIn B w l a) : DfsIn B w' l a :=
  ⟨h.1, fun i d hi => by
    obtain ⟨b, off, pa, pc, ba, bc, ha, hb, c0, c1, c2, c3, c4, c5, c6, c7, c8, hin⟩ := h.2 i d hi
    exact ⟨b, off, pa, pc, ba, bc, ha, hb, (hs _ _ hb).trans c0, (hs _ _ hb).trans c1, (hs _ _ hb).trans c2, (hs _ _ hb).trans c3, (hs _ _ hb).trans c4, (hs _ _ hb).trans c5, (hs _ _ hb).trans c6, (hs _ _ hb).trans c7, (hs _ _ hb).trans c8, hin.same hs⟩⟩

theorem two_cell {w : World} {b : Nat} {v0 v1 : Value} {t : TypeId} (h : w.heap[b]? = some (.cells #[v0, v1] t (0, 0))) :
    w.cell? ⟨b, 0, none⟩ = some v0 ∧ w.cell? ⟨b, 1, none⟩ = some v1 ∧ w.frozen? ⟨b, 0, none⟩ = false ∧ w.frozen? ⟨b, 1, none⟩ = false := by simp [World.cell?, World.frozen?, h]

/-- The checker lies in block C: at which definition, and how many nodes so far. -/
def CK (w : World) (C : Nat) (num : Int) (n : Nat) : Prop := w.heap[C]? = some (.cells #[.int .i64 num, .int .i64 n] 79 (0, 0))

theorem CK.cells {w : World} {C n : Nat} {num : Int} (h : CK w C num n) :
    w.cell? ⟨C, 0, none⟩ = some (.int .i64 num) ∧ w.cell? ⟨C, 1, none⟩ = some (.int .i64 n) ∧ w.frozen? ⟨C, 0, none⟩ = false ∧ w.frozen? ⟨C, 1, none⟩ = false := two_cell h

theorem CK.lt {w : World} {C n : Nat} {num : Int} (h : CK w C num n) : C < w.heap.size := lt_of_block h

theorem grown_at (w : World) (b o : Nat) (v : Value) : w.grownBy (w.setCell ⟨b, o, none⟩ v) (some b) :=
  ⟨rfl, rfl, rfl, by simp [World.setCell], fun k _ hne => Below.heap_setCell _ _ _ _ (by intro h; apply hne; simp [h])⟩

theorem CK.set1 {w : World} {C n m : Nat} {num : Int} (h : CK w C num n) {v : Int} (hv : v = m) : CK (w.setCell ⟨C, 1, none⟩ (.int .i64 v)) C num m := by
  subst hv
  have hl := h.lt
  unfold CK at *
  simp only [World.setCell, Array.getElem?_modify, if_true, h, Option.map_some]
  rfl

theorem CK.set0 {w : World} {C n : Nat} {num v : Int} (h : CK w C num n) : CK (w.setCell ⟨C, 0, none⟩ (.int .i64 v)) C v n := by
  unfold CK at *
  simp only [World.setCell, Array.getElem?_modify, if_true, h, Option.map_some]
  rfl

theorem CK.keep {w w' : World} {C n : Nat} {num : Int} {r : Option Nat} (h : CK w C num n) (hg : w.grownBy w' r) (hr : r ≠ some C) : CK w' C num n := (hg.block C h.lt (fun e => hr e.symm)).trans h

abbrev fltE (er num : Int) : PanicEntry := { v := .iface 25 (.agg #[.int .i64 er, .int .i64 num]), recovered := false }

/-- What comes of a look: the count goes on, or the fault is thrown. -/
def Fate (C : Nat) (num : Int) (r : Except Int Nat) (e : Ending) (w' : World) : Prop :=
  match r with
  | .ok m => e = .returned (.tuple #[]) ∧ CK w' C num m
  | .error er => e = .panicked [fltE er num]

/-- Likewise of one that counts nothing. -/
def Fate0 (num er : Int) (w : World) (e : Ending) (w' : World) : Prop := w.grownBy w' none ∧ e = if er = 0 then .returned (.tuple #[]) else .panicked [fltE er num]

end Go.Proofs.YtlnikpcoejpknaaGreatDoor

/- The walks of the small byte tests and of run. -/
namespace Go.Proofs.YtlnikpcoejpknaaGreatDoor
open Go.RowKit

set_option maxHeartbeats 400000 in
theorem isBlank_any (c : UInt8) (w : World) :
    Calls Tryz.prog 94 #[.int .u8 (c.toNat : Int)] w fun e w' => e = .returned (.bool (Lx.isBlk c)) ∧ w' = w := by
  go_enter Tryz.func94, Tryz.ntmps94
  go_wp2
  all_goals go_ret
  all_goals refine ⟨ret_bool ?_, rfl⟩
  all_goals unfold Lx.isBlk; rw [Bool.eq_iff_iff]; simp; omega

set_option maxHeartbeats 400000 in
theorem run_digit (s : ByteArray) (w : World) (hs : s.size ≤ maxLen) :
    Calls Tryz.prog 92 #[.string s, .func (.func 98) #[] #[]] w fun e w' => e = .returned (.int .i64 (Lx.span Lx.isDig s.data.toList : Nat)) ∧ w' = w := by
  unfold maxLen at hs
  go_enter Tryz.func92, Tryz.ntmps92
  go_wp2
  go_loop [5] (fun i => ∃ k : Nat, k ≤ s.size ∧ i = .int .i64 k ∧ (s.data.toList.take k).all Lx.isDig = true) (fun i => s.size - (intOf i).toNat)
  case atStart => exact ⟨0, Nat.zero_le _, rfl, rfl⟩
  case round =>
    obtain ⟨k, hk, rfl, hall⟩ := hrel
    have HA : Hid ((s.data.toList.take k).all Lx.isDig = true) := hall
    clear hall
    by_cases hlt : k < s.size
    · cases hp : Lx.isDig s[k]
      · have HP : Hid (Lx.isDig s[k] = false) := hp
        go_wp2_with (go_at_call 98; refine (isDigit_any _ _).mono ?_; rintro e w' ⟨rfl, rfl⟩)
        go_ret
        exact ⟨ret_int (by rw [span_of _ s k HA.out hk (fun _ => HP.out)]), rfl⟩
      · have HP : Hid (Lx.isDig s[k] = true) := hp
        go_wp2_with (go_at_call 98; refine (isDigit_any _ _).mono ?_; rintro e w' ⟨rfl, rfl⟩)
        go_round
        case rel => exact ⟨k + 1, by omega, by go_num, by rw [take_snoc s k hlt]; exact Lx.all_snoc _ _ _ HA.out HP.out⟩
        case measure => simp [intOf]; omega
    · go_wp2
      go_ret
      exact ⟨ret_int (by rw [span_of _ s k HA.out hk (fun h => absurd h hlt)]), rfl⟩

theorem drop_byte (s : ByteArray) (k : Nat) (h : k < s.size) : s.data.toList.drop k = s[k] :: s.data.toList.drop (k + 1) := by
  rw [List.drop_eq_getElem_cons (by simpa using h)]; rfl

set_option maxHeartbeats 400000 in
theorem gapf_any (c : UInt8) (r : Bool) (B : Nat) (w : World) (hB : w.heap[B]? = some (.cells #[.bool r] 4 (0, 0))) :
    Calls Tryz.prog 93 #[.int .u8 (c.toNat : Int), .pointer (some ⟨B, 0, none⟩)] w fun e w' => e = .returned (.bool (Lx.rem1 r c || Lx.isBlk c)) ∧ w'.heap[B]? = some (.cells #[.bool (Lx.rem1 r c)] 4 (0, 0)) ∧ w.grownBy w' (some B) := by
  have hc := cell_of_one hB
  have hf := free_of_one hB
  have HB : Hid (w.heap[B]? = some (.cells #[.bool r] 4 (0, 0))) := hB
  clear hB
  by_cases h10 : c.toNat = 10
  · have H10 : Hid (c.toNat = 10) := h10
    have e1 : ((c.toNat : Int) == 35) = false := by simp; omega
    have e2 : ((c.toNat : Int) == 10) = true := by simp; omega
    have hblk : Lx.isBlk c = true := Lx.blk_t (by omega)
    clear h10
    go_enter Tryz.func93, Tryz.ntmps93
    go_wp2_with (go_at_call 94; refine (isBlank_any _ _).mono ?_; rintro e w' ⟨rfl, rfl⟩)
    go_ret
    refine ⟨ret_bool (by simp [hblk]), ?_, grown_set _ _ _⟩
    rw [one_setCell HB.out]; simp [Lx.rem1, H10.out]
  · by_cases h35 : c.toNat = 35
    · have H35 : Hid (c.toNat = 35) := h35
      have e1 : ((c.toNat : Int) == 35) = true := by simp; omega
      have e2 : ((c.toNat : Int) == 10) = false := by simp; omega
      clear h35 h10
      go_enter Tryz.func93, Tryz.ntmps93
      go_wp2_with (go_at_call 94; refine (isBlank_any _ _).mono ?_; rintro e w' ⟨rfl, rfl⟩)
      go_ret
      refine ⟨ret_bool (by simp [Lx.rem1, H35.out]), ?_, grown_set _ _ _⟩
      rw [one_setCell HB.out]; simp [Lx.rem1, H35.out]
    · have e1 : ((c.toNat : Int) == 35) = false := by simp; omega
      have e2 : ((c.toNat : Int) == 10) = false := by simp; omega
      have hr : Lx.rem1 r c = r := by simp [Lx.rem1, h10, h35]
      have HR : Hid (Lx.rem1 r c = r) := hr
      clear h35 h10 hr
      cases r
      · go_enter Tryz.func93, Tryz.ntmps93
        go_wp2_with (go_at_call 94; refine (isBlank_any _ _).mono ?_; rintro e w' ⟨rfl, rfl⟩)
        go_ret
        exact ⟨ret_bool (by rw [HR.out]; rfl), by rw [HR.out]; exact HB.out, grown_refl _ _⟩
      · go_enter Tryz.func93, Tryz.ntmps93
        go_wp2_with (go_at_call 94; refine (isBlank_any _ _).mono ?_; rintro e w' ⟨rfl, rfl⟩)
        go_ret
        exact ⟨ret_bool (by rw [HR.out]; rfl), by rw [HR.out]; exact HB.out, grown_refl _ _⟩

set_option maxHeartbeats 400000 in
theorem run_gap (s : ByteArray) (B : Nat) (w : World) (hB : w.heap[B]? = some (.cells #[.bool false] 4 (0, 0))) (hs : s.size ≤ maxLen) :
    Calls Tryz.prog 92 #[.string s, .func (.func 93) #[] #[.pointer (some ⟨B, 0, none⟩)]] w fun e w' => e = .returned (.int .i64 (Lx.gapL false s.data.toList : Nat)) ∧ w.grownBy w' (some B) := by
  unfold maxLen at hs
  have HB : Hid (w.heap[B]? = some (.cells #[.bool false] 4 (0, 0))) := hB
  clear hB
  go_enter Tryz.func92, Tryz.ntmps92
  go_wp2
  go_loopw [5] (fun i wr => ∃ k : Nat, ∃ r : Bool, k ≤ s.size ∧ i = .int .i64 k ∧ wr.heap[B]? = some (.cells #[.bool r] 4 (0, 0)) ∧ w.grownBy wr (some B) ∧ Lx.gapL false s.data.toList = k + Lx.gapL r (s.data.toList.drop k)) (fun i _ => s.size - (intOf i).toNat)
  case atStart => exact ⟨0, false, Nat.zero_le _, rfl, HB.out, grown_refl _ _, by simp⟩
  case round =>
    obtain ⟨k, r, hk, rfl, hb, hg, he⟩ := hrel
    have HE : Hid (Lx.gapL false s.data.toList = k + Lx.gapL r (s.data.toList.drop k)) := he
    have HH : Hid (wr.heap[B]? = some (.cells #[.bool r] 4 (0, 0))) := hb
    clear he hb
    by_cases hlt : k < s.size
    · cases hp : (Lx.rem1 r s[k] || Lx.isBlk s[k])
      · have HP : Hid ((Lx.rem1 r s[k] || Lx.isBlk s[k]) = false) := hp
        clear hp
        go_wp2_with (go_at_call 93; refine (gapf_any _ r B _ HH.out).mono ?_; rintro e w1 ⟨rfl, hb1, hg1⟩; rw [HP.out])
        go_ret
        exact ⟨ret_int (by rw [HE.out, drop_byte s k hlt, Lx.gapL_no HP.out]; rfl), grown_trans hg (by assumption)⟩
      · have HP : Hid ((Lx.rem1 r s[k] || Lx.isBlk s[k]) = true) := hp
        clear hp
        go_wp2_with (go_at_call 93; refine (gapf_any _ r B _ HH.out).mono ?_; rintro e w1 ⟨rfl, hb1, hg1⟩; rw [HP.out]; have HB1 : Hid (w1.heap[B]? = some (.cells #[.bool (Lx.rem1 r s[k])] 4 (0, 0))) := hb1; clear hb1)
        go_roundw
        case rel => exact ⟨k + 1, _, by omega, by go_num, Hid.out (by assumption), grown_trans hg (by assumption), by rw [HE.out, drop_byte s k hlt, Lx.gapL_yes HP.out]; omega⟩
        case measure => simp [intOf]; omega
    · go_wp2
      go_ret
      exact ⟨ret_int (by rw [HE.out, List.drop_of_length_le (by simp; omega)]; rfl), hg⟩

set_option maxHeartbeats 400000 in
theorem gap_any (s : ByteArray) (w : World) (hs : s.size ≤ maxLen) :
    Calls Tryz.prog 64 #[.string s] w fun e w' => e = .returned (.int .i64 (Lx.gapL false s.data.toList : Nat)) ∧ Below w.heap.size w w' := by
  go_enter Tryz.func64, Tryz.ntmps64
  go_wp2_with fail
  refine (run_gap s w.heap.size _ (heap_alloc_new w _) hs).mono ?_
  rintro e w1 ⟨rfl, hg⟩
  go_wp2
  go_ret
  exact ⟨rfl, ((Below.refl _ w).alloc (Nat.le_refl _) _).grown hg (by simp) (by intro k hk; cases hk; exact Nat.le_refl _)⟩

end Go.Proofs.YtlnikpcoejpknaaGreatDoor

/- More plain functions: the first token of a text, and the number of digits. -/
namespace Go.Proofs.YtlnikpcoejpknaaGreatDoor
namespace Lx

theorem signL_short (s : ByteArray) (h0 : 0 < s.size) (h1 : ¬ 1 < s.size) : signL s.data.toList = if one s[0] then 1 else 0 := by
  rw [byte_cons s h0, List.drop_of_length_le (by simp; omega)]
  simp [signL]

theorem signL_long (s : ByteArray) (h1 : 1 < s.size) : signL s.data.toList = if decide (s[1].toNat = 61) && two s[0] then 2 else if one s[0] then 1 else 0 := by
  have h0 : 0 < s.size := by omega
  have h := List.drop_eq_getElem_cons (l := s.data.toList) (i := 1) (by simpa using h1)
  rw [byte_cons s h0, h]
  have e : s.data.toList[1]'(by simpa using h1) = s[1] := rfl
  rw [e]
  have e2 : (some s[1] == some (61 : UInt8)) = decide (s[1].toNat = 61) := by
    rw [Bool.eq_iff_iff]; simp [← UInt8.toNat_inj]
  simp only [signL, List.head?_cons, e2]

/-- The number of digits. -/
def numL (l : List UInt8) : Nat := l.foldl (fun n c => n * 10 + (c.toNat - 48)) 0

theorem numL_snoc (l : List UInt8) (c : UInt8) : numL (l ++ [c]) = numL l * 10 + (c.toNat - 48) := by
  simp [numL, List.foldl_append]

theorem numL_lt : ∀ (l : List UInt8), (∀ c ∈ l, isDig c = true) → numL l < 10 ^ l.length := by
  intro l
  generalize hn : l.length = n
  induction n generalizing l with
  | zero =>
    intro _
    have e : l = [] := List.length_eq_zero_iff.1 hn
    subst e
    decide
  | succ n ih =>
    intro h
    obtain ⟨xs, x, rfl⟩ : ∃ xs x, l = xs ++ [x] := ⟨l.dropLast, l.getLast (by intro e; simp [e] at hn), (List.dropLast_concat_getLast _).symm⟩
    have hx := h x (by simp)
    have := ih xs (by simpa using hn) (fun c hc => h c (by simp [hc]))
    rw [numL_snoc, Nat.pow_succ]
    have hx2 : x.toNat ≤ 57 := by have := of_decide_eq_true hx; omega
    omega

/-- The first token of l: what is wrong, its kind, its length, its number. -/
def firstL (l : List UInt8) : Nat × Nat × Nat × Nat :=
  match l with
  | [] => (2, 0, 0, 0)
  | c :: r =>
    if isLet c then (0, 1, span isWrd (c :: r), 0)
    else if isDig c then (if 15 < span isDig (c :: r) then (3, 0, 0, 0) else (0, 2, span isDig (c :: r), numL ((c :: r).take (span isDig (c :: r)))))
    else if signL (c :: r) = 0 then (2, 0, 0, 0) else (0, 3, signL (c :: r), 0)

theorem take_span_all (p : UInt8 → Bool) : ∀ (l : List UInt8), ∀ c ∈ l.take (span p l), p c = true
  | [], c, h => by simp at h
  | a :: l, c, h => by
    unfold span at h
    rw [List.takeWhile_cons] at h
    split at h
    · rename_i ha
      simp only [List.length_cons, List.take_succ_cons, List.mem_cons] at h
      rcases h with rfl | h
      · exact ha
      · exact take_span_all p l c h
    · simp at h

theorem signL_le (l : List UInt8) : signL l ≤ l.length := by
  match l with
  | [] => simp [signL]
  | [c] => simp [signL]; split <;> omega
  | c :: d :: l => simp only [signL]; split <;> (try split) <;> simp

end Lx
end Go.Proofs.YtlnikpcoejpknaaGreatDoor

