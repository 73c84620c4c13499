/- The walk of the document's Find. -/
import Derived.Test.YtpnljpdpobbiiaaGreatDoorM46
import Derived.Test.YtpnljpdpobbiiaaGreatDoorM16
import Derived.Deep.QuietTactic
import Derived.BigQuiet
namespace Go.Proofs.YtpnljpdpobbiiaaGreatDoor
open Go.RowKit
namespace Sm
def has (l:List Sy.Df) (kind:Int) (name:ByteArray):Bool:=l.any fun d => d.kind == kind && d.name.toList == name.toList
end Sm
namespace Sm
theorem gl_tabs {w:World} (h:Xe.Tabs w):Gl w.heap.size w:=by
 obtain ⟨_,⟨e1,f1,h1⟩,⟨e2,f2,h2⟩⟩:=h
 have b1:=lt_of_block h1
 have b2:=lt_of_block h2
 refine ⟨⟨b2,b1⟩,?_,?_,?_,?_⟩ <;> simp [World.cell?,h1,h2,Xe.truthL,Xe.numL] <;> rfl
end Sm
end Go.Proofs.YtpnljpdpobbiiaaGreatDoor
