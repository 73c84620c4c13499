/- Programs as plain data,and what is wrong with their form; nothing of the program. -/
import Derived.Test.YtbioaoangfiijaaGreatDoorM1
namespace Go.Proofs.YtbioaoangfiijaaGreatDoor
namespace Sy
structure Ty where
 kind:Int
 gen:ByteArray
structure Ex where
 kind:Int
 n:Int
 name:ByteArray
 kids:List Ex
structure St where
 kind:Int
 name:ByteArray
 x:Ex
 body:List St
 els:List St
structure Pm where
 name:ByteArray
 ty:Ty
structure Df where
 kind:Int
 name:ByteArray
 ty:Ty
 takes:Ty
 cap:Int
 params:List Pm
 body:List St
def nm (s:ByteArray):Bool:=Lx.named s.toList
def runs {α:Type} (f:α → Nat → Except Int Nat):List α → Nat → Except Int Nat
 | [],n => .ok n
 | a :: l,n => match f a n with
  | .ok m => runs f l m
  | .error e => .error e
def nodeW (kind most:Int) (d n:Nat):Int:=if 2000 < n + 1 ∨ d = 0 then 4 else if kind < 1 ∨ most < kind then 1 else 0
def tyW (t:Ty):Int:=if t.kind < 1 ∨ 3 < t.kind then 1 else if t.kind = 3 ∧ nm t.gen = false then 7 else 0
def least (k:Int):Int:=if k = 1 ∨ k = 2 ∨ k = 3 ∨ k = 20 then 0 else if k = 4 ∨ k = 5 ∨ k = 21 ∨ k = 24 then 1 else if k = 19 ∨ k = 22 then 0 else 2
def most (k:Int):Int:=if k = 1 ∨ k = 2 ∨ k = 3 ∨ k = 20 then 0 else if k = 4 ∨ k = 5 ∨ k = 21 ∨ k = 24 then 1 else if k = 19 ∨ k = 22 then 6 else 2
def exHead (x:Ex):Int :=
 if x.kind = 1 ∧ (x.n < 0 ∨ 999999999999999 < x.n) ∨ x.kind = 2 ∧ (x.n < 0 ∨ 1 < x.n) then 3
 else if (x.kind = 3 ∨ x.kind = 19 ∨ x.kind = 20 ∨ x.kind = 22) ∧ nm x.name = false then 7
 else if (x.kids.length:Int) < least x.kind ∨ most x.kind < x.kids.length then 5
 else 0
def exW:Nat → Ex → Nat → Except Int Nat
 | 0,_,_ => .error 4
 | d + 1,x,n =>
  if nodeW x.kind 24 (d + 1) n ≠ 0 then .error (nodeW x.kind 24 (d + 1) n)
  else if exHead x ≠ 0 then .error (exHead x)
  else runs (exW d) x.kids (n + 1)
def bodyOf (f:St → Nat → Except Int Nat) (l:List St) (n:Nat):Except Int Nat:=if 50 < l.length then .error 5 else runs f l n
def stTail (f:St → Nat → Except Int Nat) (s:St) (m:Nat):Except Int Nat :=
 if s.kind = 3 ∨ s.kind = 4 then
  match bodyOf f s.body m with
  | .error e => .error e
  | .ok m2 => if s.kind = 3 then bodyOf f s.els m2 else .ok m2
 else .ok m
def stW:Nat → St → Nat → Except Int Nat
 | 0,_,_ => .error 4
 | d + 1,s,n =>
  if nodeW s.kind 9 (d + 1) n ≠ 0 then .error (nodeW s.kind 9 (d + 1) n)
  else if (s.kind = 1 ∨ s.kind = 2 ∨ s.kind = 7) ∧ nm s.name = false then .error 7
  else if s.kind = 6 then .ok (n + 1)
  else match exW d s.x (n + 1) with
   | .error e => .error e
   | .ok m => stTail (stW d) s m
def bodyW (d:Nat) (l:List St) (n:Nat):Except Int Nat:=bodyOf (stW d) l n
def pmsW:List Pm → Int
 | [] => 0
 | p :: l => if nm p.name = false then 7 else if tyW p.ty ≠ 0 then tyW p.ty else pmsW l
def dfHead (d:Df) (n:Nat):Int :=
 if nodeW d.kind 4 40 n ≠ 0 then nodeW d.kind 4 40 n
 else if nm d.name = false then 7
 else if (d.kind = 2 ∨ d.kind = 3) ∧ 6 < d.params.length then 5
 else if (d.kind = 2 ∨ d.kind = 3) ∧ pmsW d.params ≠ 0 then pmsW d.params
 else if d.kind = 3 ∧ tyW d.takes ≠ 0 then tyW d.takes
 else if d.kind ≠ 4 ∧ tyW d.ty ≠ 0 then tyW d.ty
 else if d.kind = 1 ∧ (d.cap < 1 ∨ 20 < d.cap) then 3
 else 0
def dfW (d:Df) (n:Nat):Except Int Nat :=
 if dfHead d n ≠ 0 then .error (dfHead d n) else if d.kind = 1 then .ok (n + 1) else bodyW 39 d.body (n + 1)
def defsW:List Df → Nat → Nat → Int × Nat
 | [],_,_ => (0,0)
 | d :: l,i,n => match dfW d n with
  | .error e => (e,i)
  | .ok m => defsW l (i + 1) m
def wrongL (l:List Df):Int × Nat:=if 30 < l.length then (5,0) else defsW l 0 0
theorem nodeW_zero {kind most:Int} {d n:Nat} (h:nodeW kind most d n = 0):n + 1 ≤ 2000 ∧ 1 ≤ kind ∧ kind ≤ most ∧ d ≠ 0:=by
 unfold nodeW at h
 split at h
 ·omega
 ·split at h
  ·omega
  ·omega
theorem runs_le {α:Type} {f:α → Nat → Except Int Nat} (hf:∀ a n m,n ≤ 2000 → f a n = .ok m → m ≤ 2000):∀ (l:List α) (n m:Nat),n ≤ 2000 → runs f l n = .ok m → m ≤ 2000
 | [],n,m,hn,h => by simp [runs] at h; omega
 | a :: l,n,m,hn,h => by
  unfold runs at h
  cases ha:f a n with
  | error e => rw [ha] at h; simp at h
  | ok k => rw [ha] at h; exact runs_le hf l k m (hf a n k hn ha) h
theorem exW_le:∀ (d:Nat) (x:Ex) (n m:Nat),n ≤ 2000 → exW d x n = .ok m → m ≤ 2000
 | 0,x,n,m,_,h => by simp [exW] at h
 | d + 1,x,n,m,hn,h => by
  unfold exW at h
  split at h
  ·simp at h
  ·rename_i h0
   have:=nodeW_zero (by simpa using h0:nodeW x.kind 24 (d + 1) n = 0)
   split at h
   ·simp at h
   ·exact runs_le (exW_le d) _ _ _ (by omega) h
theorem bodyOf_le {f:St → Nat → Except Int Nat} (hf:∀ a n m,n ≤ 2000 → f a n = .ok m → m ≤ 2000) {l:List St} {n m:Nat} (hn:n ≤ 2000) (h:bodyOf f l n = .ok m):m ≤ 2000:=by
 unfold bodyOf at h
 split at h
 ·simp at h
 ·exact runs_le hf _ _ _ hn h
theorem stW_le:∀ (d:Nat) (x:St) (n m:Nat),n ≤ 2000 → stW d x n = .ok m → m ≤ 2000
 | 0,x,n,m,_,h => by simp [stW] at h
 | d + 1,x,n,m,hn,h => by
  unfold stW at h
  split at h
  ·simp at h
  ·rename_i h0
   have:=nodeW_zero (by simpa using h0:nodeW x.kind 9 (d + 1) n = 0)
   split at h
   ·simp at h
   ·split at h
    ·simp at h; omega
    ·cases he:exW d x.x (n + 1) with
     | error e => rw [he] at h; simp at h
     | ok k =>
      rw [he] at h
      have hk:=exW_le _ _ _ _ (by omega) he
      simp only [stTail] at h
      split at h
      ·cases hb:bodyOf (stW d) x.body k with
       | error e => rw [hb] at h; simp at h
       | ok k2 =>
        rw [hb] at h
        have hk2:=bodyOf_le (stW_le d) hk hb
        simp only at h
        split at h
        ·exact bodyOf_le (stW_le d) hk2 h
        ·simp at h; omega
      ·simp at h; omega
theorem runs_at {α:Type} {f:α → Nat → Except Int Nat} {l:List α} {k:Nat} {a:α} (h:l[k]? = some a) (n:Nat) :
  runs f (l.drop k) n = match f a n with
   | .ok m => runs f (l.drop (k + 1)) m
   | .error e => .error e:=by
 obtain ⟨hk,rfl⟩:=List.getElem?_eq_some_iff.1 h
 rw [List.drop_eq_getElem_cons hk]
 rfl
end Sy
end Go.Proofs.YtbioaoangfiijaaGreatDoor
namespace Go.Proofs.YtbioaoangfiijaaGreatDoor
open Go.RowKit
abbrev exV (x:Sy.Ex) (a:Option Addr) (c:Nat):Value:=.agg #[.int .i64 x.kind,.int .i64 x.n,.string x.name,.slice a x.kids.length c]
abbrev tyV (t:Sy.Ty):Value:=.agg #[.int .i64 t.kind,.string t.gen]
abbrev stV (s:Sy.St) (xa:Option Addr) (xc:Nat) (ba:Option Addr) (bc:Nat) (ea:Option Addr) (ec:Nat):Value :=
 .agg #[.int .i64 s.kind,.string s.name,.int .i64 s.x.kind,.int .i64 s.x.n,.string s.x.name,.slice xa s.x.kids.length xc,.slice ba s.body.length bc,.slice ea s.els.length ec]
abbrev dfV (d:Sy.Df) (pa:Option Addr) (pc:Nat) (ba:Option Addr) (bc:Nat):Value :=
 .agg #[.int .i64 d.kind,.string d.name,.int .i64 d.ty.kind,.string d.ty.gen,.int .i64 d.takes.kind,.string d.takes.gen,.int .i64 d.cap,.slice pa d.params.length pc,.slice ba d.body.length bc]
def ExIn (B:Nat) (w:World):Nat → Sy.Ex → Option Addr → Prop
 | 0,_,_ => False
 | h + 1,x,a => x.name.size ≤ maxLen ∧ x.kids.length ≤ maxLen ∧ ∀ i k,x.kids[i]? = some k → ∃ b off a' c',a = some ⟨b,off,none⟩ ∧ b < B ∧
   w.cell? ⟨b,off + i * 4,none⟩ = some (.int .i64 k.kind) ∧ w.cell? ⟨b,off + i * 4 + 1,none⟩ = some (.int .i64 k.n) ∧ w.cell? ⟨b,off + i * 4 + 2,none⟩ = some (.string k.name) ∧
   w.cell? ⟨b,off + i * 4 + 3,none⟩ = some (.slice a' k.kids.length c') ∧ ExIn B w h k a'
def RowIn (B:Nat) (w:World) (P:Sy.St → Option Addr → Option Addr → Option Addr → Prop) (l:List Sy.St) (a:Option Addr):Prop :=
 ∀ i s,l[i]? = some s → ∃ b off xa xc ba bc ea ec,a = some ⟨b,off,none⟩ ∧ b < B ∧
   w.cell? ⟨b,off + i * 8,none⟩ = some (.int .i64 s.kind) ∧ w.cell? ⟨b,off + i * 8 + 1,none⟩ = some (.string s.name) ∧
   w.cell? ⟨b,off + i * 8 + 2,none⟩ = some (.int .i64 s.x.kind) ∧ w.cell? ⟨b,off + i * 8 + 3,none⟩ = some (.int .i64 s.x.n) ∧ w.cell? ⟨b,off + i * 8 + 4,none⟩ = some (.string s.x.name) ∧
   w.cell? ⟨b,off + i * 8 + 5,none⟩ = some (.slice xa s.x.kids.length xc) ∧ w.cell? ⟨b,off + i * 8 + 6,none⟩ = some (.slice ba s.body.length bc) ∧
   w.cell? ⟨b,off + i * 8 + 7,none⟩ = some (.slice ea s.els.length ec) ∧ P s xa ba ea
def StIn (B:Nat) (w:World):Nat → Sy.St → Option Addr → Option Addr → Option Addr → Prop
 | 0,_,_,_,_ => False
 | h + 1,s,xa,ba,ea => s.name.size ≤ maxLen ∧ (∃ hx,ExIn B w hx s.x xa) ∧ s.body.length ≤ maxLen ∧ s.els.length ≤ maxLen ∧ RowIn B w (StIn B w h) s.body ba ∧ RowIn B w (StIn B w h) s.els ea
def BodyIn (B:Nat) (w:World) (h:Nat) (l:List Sy.St) (a:Option Addr):Prop:=l.length ≤ maxLen ∧ RowIn B w (StIn B w h) l a
def PmsIn (B:Nat) (w:World) (l:List Sy.Pm) (a:Option Addr):Prop :=
 l.length ≤ maxLen ∧ ∀ i p,l[i]? = some p → ∃ b off,a = some ⟨b,off,none⟩ ∧ b < B ∧ w.cell? ⟨b,off + i * 3,none⟩ = some (.string p.name) ∧
   w.cell? ⟨b,off + i * 3 + 1,none⟩ = some (.int .i64 p.ty.kind) ∧ w.cell? ⟨b,off + i * 3 + 2,none⟩ = some (.string p.ty.gen) ∧ p.name.size ≤ maxLen ∧ p.ty.gen.size ≤ maxLen
def DfIn (B:Nat) (w:World) (d:Sy.Df) (pa ba:Option Addr):Prop :=
 d.name.size ≤ maxLen ∧ d.ty.gen.size ≤ maxLen ∧ d.takes.gen.size ≤ maxLen ∧ PmsIn B w d.params pa ∧ ∃ h,BodyIn B w h d.body ba
def DfsIn (B:Nat) (w:World) (l:List Sy.Df) (a:Option Addr):Prop :=
 l.length ≤ maxLen ∧ ∀ i d,l[i]? = some d → ∃ b off pa pc ba bc,a = some ⟨b,off,none⟩ ∧ b < B ∧
   w.cell? ⟨b,off + i * 9,none⟩ = some (.int .i64 d.kind) ∧ w.cell? ⟨b,off + i * 9 + 1,none⟩ = some (.string d.name) ∧
   w.cell? ⟨b,off + i * 9 + 2,none⟩ = some (.int .i64 d.ty.kind) ∧ w.cell? ⟨b,off + i * 9 + 3,none⟩ = some (.string d.ty.gen) ∧
   w.cell? ⟨b,off + i * 9 + 4,none⟩ = some (.int .i64 d.takes.kind) ∧ w.cell? ⟨b,off + i * 9 + 5,none⟩ = some (.string d.takes.gen) ∧
   w.cell? ⟨b,off + i * 9 + 6,none⟩ = some (.int .i64 d.cap) ∧ w.cell? ⟨b,off + i * 9 + 7,none⟩ = some (.slice pa d.params.length pc) ∧
   w.cell? ⟨b,off + i * 9 + 8,none⟩ = some (.slice ba d.body.length bc) ∧ DfIn B w d pa ba
def Same (B:Nat) (w w':World):Prop:=∀ b o,b < B → w'.cell? ⟨b,o,none⟩ = w.cell? ⟨b,o,none⟩
theorem Same.refl (B:Nat) (w:World):Same B w w:=fun _ _ _ => rfl
theorem Same.trans {B:Nat} {a b c:World} (h:Same B a b) (k:Same B b c):Same B a c:=fun i o hi => (k i o hi).trans (h i o hi)
theorem same_grown {B:Nat} {C:Option Nat} {w w':World} (hg:w.grownBy w' C) (hB:∀ c,C = some c → B ≤ c) (hs:B ≤ w.heap.size):Same B w w' :=
 fun b o hb => World.cell?_of_block (w:=w) (hg.block b (by omega) (fun e => by have:=hB b e.symm; omega))
theorem same_below {B:Nat} {w w':World} (h:Below B w w'):Same B w w':=fun b o hb => h.cell (p:=⟨b,o,none⟩) hb
theorem ExIn.same {B:Nat} {w w':World} (hs:Same B w w'):∀ (h:Nat) (x:Sy.Ex) (a:Option Addr),ExIn B w h x a → ExIn B w' h x a
 | 0,_,_,h => h
 | h + 1,x,a,⟨h1,h2,h3⟩ => ⟨h1,h2,fun i k hk => by
   obtain ⟨b,off,a',c',ha,hb,c0,c1,c2,c3,hin⟩:=h3 i k hk
   exact ⟨b,off,a',c',ha,hb,(hs _ _ hb).trans c0,(hs _ _ hb).trans c1,(hs _ _ hb).trans c2,(hs _ _ hb).trans c3,ExIn.same hs h k a' hin⟩⟩
theorem RowIn.same {B:Nat} {w w':World} (hs:Same B w w') {P P':Sy.St → Option Addr → Option Addr → Option Addr → Prop} (hP:∀ s x b e,P s x b e → P' s x b e)
  {l:List Sy.St} {a:Option Addr} (h:RowIn B w P l a):RowIn B w' P' l a:=fun i s hi => by
 obtain ⟨b,off,xa,xc,ba,bc,ea,ec,ha,hb,c0,c1,c2,c3,c4,c5,c6,c7,hin⟩:=h i s hi
 exact ⟨b,off,xa,xc,ba,bc,ea,ec,ha,hb,(hs _ _ hb).trans c0,(hs _ _ hb).trans c1,(hs _ _ hb).trans c2,(hs _ _ hb).trans c3,(hs _ _ hb).trans c4,(hs _ _ hb).trans c5,(hs _ _ hb).trans c6,(hs _ _ hb).trans c7,hP _ _ _ _ hin⟩
theorem StIn.same {B:Nat} {w w':World} (hs:Same B w w'):∀ (h:Nat) (s:Sy.St) (xa ba ea:Option Addr),StIn B w h s xa ba ea → StIn B w' h s xa ba ea
 | 0,_,_,_,_,h => h
 | h + 1,_,_,_,_,⟨h1,⟨hx,h2⟩,h3,h4,h5,h6⟩ => ⟨h1,⟨hx,h2.same hs⟩,h3,h4,h5.same hs (fun s x b e => StIn.same hs h s x b e),h6.same hs (fun s x b e => StIn.same hs h s x b e)⟩
theorem BodyIn.same {B:Nat} {w w':World} (hs:Same B w w') {h:Nat} {l:List Sy.St} {a:Option Addr} (hb:BodyIn B w h l a):BodyIn B w' h l a :=
 ⟨hb.1,hb.2.same hs (fun s x b e => StIn.same hs h s x b e)⟩
theorem PmsIn.same {B:Nat} {w w':World} (hs:Same B w w') {l:List Sy.Pm} {a:Option Addr} (h:PmsIn B w l a):PmsIn B w' l a :=
 ⟨h.1,fun i p hi => by
  obtain ⟨b,off,ha,hb,c0,c1,c2,r⟩:=h.2 i p hi
  exact ⟨b,off,ha,hb,(hs _ _ hb).trans c0,(hs _ _ hb).trans c1,(hs _ _ hb).trans c2,r⟩⟩
theorem DfIn.same {B:Nat} {w w':World} (hs:Same B w w') {d:Sy.Df} {pa ba:Option Addr} (h:DfIn B w d pa ba):DfIn B w' d pa ba :=
 ⟨h.1,h.2.1,h.2.2.1,h.2.2.2.1.same hs,h.2.2.2.2.elim fun k hk => ⟨k,hk.same hs⟩⟩
theorem DfsIn.same {B:Nat} {w w':World} (hs:Same B w w') {l:List Sy.Df} {a:Option Addr} (h:DfsIn B w l a):DfsIn B w' l a :=
 ⟨h.1,fun i d hi => by
  obtain ⟨b,off,pa,pc,ba,bc,ha,hb,c0,c1,c2,c3,c4,c5,c6,c7,c8,hin⟩:=h.2 i d hi
  exact ⟨b,off,pa,pc,ba,bc,ha,hb,(hs _ _ hb).trans c0,(hs _ _ hb).trans c1,(hs _ _ hb).trans c2,(hs _ _ hb).trans c3,(hs _ _ hb).trans c4,(hs _ _ hb).trans c5,(hs _ _ hb).trans c6,(hs _ _ hb).trans c7,(hs _ _ hb).trans c8,hin.same hs⟩⟩
theorem two_cell {w:World} {b:Nat} {v0 v1:Value} {t:TypeId} (h:w.heap[b]? = some (.cells #[v0,v1] t (0,0))) :
  w.cell? ⟨b,0,none⟩ = some v0 ∧ w.cell? ⟨b,1,none⟩ = some v1 ∧ w.frozen? ⟨b,0,none⟩ = false ∧ w.frozen? ⟨b,1,none⟩ = false:=by simp [World.cell?,World.frozen?,h]
def CK (w:World) (C:Nat) (num:Int) (n:Nat):Prop:=w.heap[C]? = some (.cells #[.int .i64 num,.int .i64 n] 87 (0,0))
theorem CK.cells {w:World} {C n:Nat} {num:Int} (h:CK w C num n) :
  w.cell? ⟨C,0,none⟩ = some (.int .i64 num) ∧ w.cell? ⟨C,1,none⟩ = some (.int .i64 n) ∧ w.frozen? ⟨C,0,none⟩ = false ∧ w.frozen? ⟨C,1,none⟩ = false:=two_cell h
theorem CK.lt {w:World} {C n:Nat} {num:Int} (h:CK w C num n):C < w.heap.size:=lt_of_block h
theorem grown_at (w:World) (b o:Nat) (v:Value):w.grownBy (w.setCell ⟨b,o,none⟩ v) (some b) :=
 ⟨rfl,rfl,rfl,by simp [World.setCell],fun k _ hne => Below.heap_setCell _ _ _ _ (by intro h; apply hne; simp [h])⟩
theorem CK.set1 {w:World} {C n m:Nat} {num:Int} (h:CK w C num n) {v:Int} (hv:v = m):CK (w.setCell ⟨C,1,none⟩ (.int .i64 v)) C num m:=by
 subst hv
 have hl:=h.lt
 unfold CK at *
 simp only [World.setCell,Array.getElem?_modify,if_true,h,Option.map_some]
 rfl
theorem CK.set0 {w:World} {C n:Nat} {num v:Int} (h:CK w C num n):CK (w.setCell ⟨C,0,none⟩ (.int .i64 v)) C v n:=by
 unfold CK at *
 simp only [World.setCell,Array.getElem?_modify,if_true,h,Option.map_some]
 rfl
theorem CK.keep {w w':World} {C n:Nat} {num:Int} {r:Option Nat} (h:CK w C num n) (hg:w.grownBy w' r) (hr:r ≠ some C):CK w' C num n:=(hg.block C h.lt (fun e => hr e.symm)).trans h
abbrev fltE (er num:Int):PanicEntry:={ v:=.iface 27 (.agg #[.int .i64 er,.int .i64 num]),recovered:=false }
def Fate (C:Nat) (num:Int) (r:Except Int Nat) (e:Ending) (w':World):Prop :=
 match r with
 | .ok m => e = .returned (.tuple #[]) ∧ CK w' C num m
 | .error er => e = .panicked [fltE er num]
def Fate0 (num er:Int) (w:World) (e:Ending) (w':World):Prop:=w.grownBy w' none ∧ e = if er = 0 then .returned (.tuple #[]) else .panicked [fltE er num]
end Go.Proofs.YtbioaoangfiijaaGreatDoor
