/- A module's two cells. -/
import Derived.Test.YtbdpdjcdhclbfaaGreatM18
import Derived.Test.YtbdpdjcdhclbfaaGreatM25
import Derived.Test.YtbdpdjcdhclbfaaGreatM19
import Derived.Test.YtbdpdjcdhclbfaaGreatM22
import Derived.Laws.IdiomStrings
set_option maxRecDepth 100000
set_option maxHeartbeats 400000
namespace Go.Proofs.YtbdpdjcdhclbfaaGreat
open Go.RowKit
abbrev uM (m:Vf.Md) (ab au:Option Addr) (cb cu:Nat):Obj:=.cells #[.slice ab m.boxes.length cb,.slice au m.units.length cu] 25 (0,0)
theorem lF {w:World}{N:Nat}{x y:Value}(h:w.heap[N]?=some (.cells #[x,y] 25 (0,0))):w.cell? ⟨N,0,none⟩=some x∧w.cell? ⟨N,1,none⟩=some y∧w.frozen? ⟨N,1,none⟩=false:=by
 simp[World.cell?,World.frozen?,h]
theorem xL (t:Int)(w:World)(b:Bool)(hb:Hid (b=Vf.plain t)) :
  Calls Tryz.prog 41 #[.int .i64 t] w fun e w'=>e=.returned (.bool b)∧w'=w:=by
 rw[hb.out];unfold Vf.plain;clear hb;by_cases h1:t=1
 ·have e1:(t==1)=true:=by simpa using h1
  go_enter Tryz.func41,Tryz.ntmps41
  go_wp2
  go_ret
  rw[e1];exact⟨rfl,rfl⟩
 ·have e1:(t==1)=false:=by simpa using h1
  go_enter Tryz.func41,Tryz.ntmps41
  go_wp2
  go_ret
  rw[e1];exact⟨rfl,rfl⟩
theorem IZ (m:Vf.Md)(ab au:Option Addr)(cb cu B:Nat)(k n:Int)(w:World)(hm:Hid (aD B w m ab au))(hB:B≤w.heap.size)(b:Bool)(hb:Hid (b=Vf.is m k n)) :
  Calls Tryz.prog 77 #[aT m ab au cb cu,.int .i64 n,.int .i64 k] w fun e w'=>e=.returned (.bool b)∧w'=w.alloc (uM m ab au cb cu):=by
 by_cases h0:0≤n
 ·obtain⟨j,rfl⟩:=yM h0
  by_cases h1:j<m.units.length
  ·obtain⟨u,hu⟩:∃ u,m.units[j]?=some u:=⟨_,List.getElem?_eq_getElem h1⟩
   obtain⟨bu,off,al,cl,ac,cc,ha,hbu,_,u0,_⟩:=hm.out.units j u hu;have HR:Hid (b=(u.kind==k)):=by rw[hb.out,JG hu];rfl
   have hd:(0:Int)≤(j:Int):=by omega
   have hd1:(j:Int)<(m.units.length:Int):=by omega
   have hbl:bu<w.heap.size:=by omega
   subst ha;clear hu hb;go_enter Tryz.func77,Tryz.ntmps77
   go_wp2
   go_ret
   rw[HR.out];exact⟨rfl,rfl⟩
  ·have HR:Hid (b=false):=by rw[hb.out,LK (by omega)];rfl
   have hd:(0:Int)≤(j:Int):=by omega
   have hd1:decide (j<m.units.length)=false:=by simpa using h1
   go_enter Tryz.func77,Tryz.ntmps77
   go_wp2
   go_ret
   rw[HR.out];exact⟨rfl,rfl⟩
 ·have HR:Hid (b=false):=by rw[hb.out,F7 h0];rfl
  have hd:decide (0≤n)=false:=by simpa using h0
  go_enter Tryz.func77,Tryz.ntmps77
  go_wp2
  go_ret
  rw[HR.out];exact⟨rfl,rfl⟩
theorem NT {b:Nat}:(⟨b,0,none⟩:Addr).add 0=⟨b,0,none⟩:=by
 unfold Addr.add;simp
theorem abG (w:World):Calls Tryz.prog 46 #[.int .i64 1] w fun e w'=>e=.returned (.string "n".toUTF8)∧w'=w:=by
 go_enter Tryz.func46,Tryz.ntmps46
 go_wp2
 go_ret
 exact⟨rfl,rfl⟩
theorem abH (w:World):Calls Tryz.prog 46 #[.int .i64 2] w fun e w'=>e=.returned (.string "b".toUTF8)∧w'=w:=by
 go_enter Tryz.func46,Tryz.ntmps46
 go_wp2
 go_ret
 exact⟨rfl,rfl⟩
theorem abI (t:Int)(h10:10≤t)(h40:t<40)(w:World):Calls Tryz.prog 46 #[.int .i64 t] w fun e w'=>e=.returned (.string ⟨#[UInt8.ofNat (55+t).toNat]⟩)∧w.grownBy w' none:=by
 have n1:(t==1)=false:=by simp;omega
 have n2:(t==2)=false:=by simp;omega
 have hb:((UInt8.ofNat (55+t).toNat).toNat:Int)=65+t - 10:=by
  rw[UInt8.toNat_ofNat'];omega
 have hh:(w.alloc (.cells #[.int .u8 (65+t - 10)] 5)).heap[w.heap.size]?=some (.cells #[.int .u8 (65+t - 10)] 5 (0,0)):=heap_alloc_new _ _;have hcv:(convert 98 9 (.slice (some ⟨w.heap.size,0,none⟩) 1 1)).run Tryz.prog (w.alloc (.cells #[.int .u8 (65+t - 10)] 5))=.ok (.string ⟨#[UInt8.ofNat (55+t).toNat]⟩) (w.alloc (.cells #[.int .u8 (65+t - 10)] 5)):=by
  refine run_convert_bytes_back (P:=Tryz.prog) _ _ _ 5 ⟨w.heap.size,0,none⟩ 1 [UInt8.ofNat (55+t).toNat] Tryz.underlying98 Tryz.underlying5 Tryz.underlying9 (fun j hj=>?_);obtain rfl:j=0:=by simp at hj;omega
  rw[NT];show _=some (Value.int .u8 ((UInt8.ofNat (55+t).toNat).toNat:Int))
  rw[hb];generalize w.alloc (.cells #[.int .u8 (65+t - 10)] 5)=W at hh ⊢;simp[World.cell?,hh]
 have hg:w.grownBy (w.alloc (.cells #[.int .u8 (65+t - 10)] 5)) none:=ai (World.grownBy.refl _ _) _;have HG:=hide hg;clear hb hh hg;go_enter Tryz.func46,Tryz.ntmps46
 go_wp2
 go_ret
 exact⟨rfl,HG.out⟩
end Go.Proofs.YtbdpdjcdhclbfaaGreat
