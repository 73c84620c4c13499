/- The walk of the document's Find. -/
import Derived.Test.YtpnljpdpobbiiaaGreatDoorM46
import Derived.Test.YtpnljpdpobbiiaaGreatDoorM16
import Derived.Deep.QuietTactic
import Derived.BigQuiet
namespace Go.Proofs.YtpnljpdpobbiiaaGreatDoor
open Go.RowKit
namespace Sm
def has (l:List Sy.Df) (kind:Int) (name:ByteArray):Bool:=l.any fun d => d.kind == kind && d.name.toList == name.toList
end Sm
namespace Sm
theorem gl_tabs {w:World} (h:Xe.Tabs w):Gl w.heap.size w:=by
 obtain ⟨_,⟨e1,f1,h1⟩,⟨e2,f2,h2⟩⟩:=h
 have b1:=lt_of_block h1
 have b2:=lt_of_block h2
 refine ⟨⟨b2,b1⟩,?_,?_,?_,?_⟩ <;> simp [World.cell?,h1,h2,Xe.truthL,Xe.numL] <;> rfl
theorem ows_at:∀ {os:List Ow3} {n:Nat} {o:Ow3},os[n]? = some o → (ows os)[n * 3]? = some (.string o.1) ∧ (ows os)[n * 3 + 1]? = some (.string o.2.1) ∧ (ows os)[n * 3 + 2]? = some (.string o.2.2)
 | [],n,o,h => by simp at h
 | a :: os,0,o,h => by simp at h; subst h; exact ⟨rfl,rfl,rfl⟩
 | a :: os,n + 1,o,h => by
  have ih:=ows_at (os:=os) (n:=n) (o:=o) (by simpa using h)
  have e:ows (a :: os) = .string a.1 :: .string a.2.1 :: .string a.2.2 :: ows os:=rfl
  rw [e,show (n + 1) * 3 = n * 3 + 1 + 1 + 1 by omega,show n * 3 + 1 + 1 + 1 + 1 = (n * 3 + 1) + 1 + 1 + 1 by omega,show n * 3 + 1 + 1 + 1 + 2 = (n * 3 + 2) + 1 + 1 + 1 by omega]
  simp only [List.getElem?_cons_succ]
  exact ih
theorem own_c {w:World} {B e size n:Nat} {va:Option Addr} {vc:Nat} {xs:List Value} (h:w.ownsRow B e size (.slice va n vc) n xs) {k:Nat} {u:Value} (hk:xs[k]? = some u):∃ g,va = some ⟨g,0,none⟩ ∧ g < w.heap.size ∧ w.cell? ⟨g,k,none⟩ = some u:=by
 rcases h.2 with ⟨e1,h0⟩ | ⟨g,cap,cur,e1,_⟩
 ·have hl:=h.1
  rw [h0] at hl
  have hx:xs = []:=List.eq_nil_of_length_eq_zero (by simpa using hl)
  rw [hx] at hk; cases hk
 ·have e2:=e1
  simp at e2
  have:=h.cells (g:=g) (by rw [e1]; rfl) k _ hk
  have hc:w.cell? ⟨g,k,none⟩ = some u:=by rcases k with _ | k <;> simpa [Addr.add] using this
  exact ⟨g,e2.1,World.block_lt_of_cell? w _ hc,hc⟩
theorem owners_ne (l:List Sy.Df) (x:Int × Nat) (h:owners l = .error x):x.1 ≠ 0:=by
 rw [owners_eq] at h
 split at h
 ·rename_i hn; cases h; exact hn
 ·exact owners2_ne l x h
theorem below_dn {B:Nat} {a w:World} (h:Below B a w):∀ n,Below B a (w.drewN n)
 | 0 => h
 | n + 1 => (below_dn h n).drew
end Sm
end Go.Proofs.YtpnljpdpobbiiaaGreatDoor
