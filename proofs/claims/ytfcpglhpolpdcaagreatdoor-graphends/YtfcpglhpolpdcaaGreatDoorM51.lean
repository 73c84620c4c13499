/- Picks in memory,out of what an argument reads as. -/
import Derived.Test.YtfcpglhpolpdcaaGreatDoorM50
import Derived.Test.YtfcpglhpolpdcaaGreatDoorM31
namespace Go.Proofs.YtfcpglhpolpdcaaGreatDoor.Vw
open Go.RowKit Vf Vm
section
variable {H:Type} {enc:TypeId × Value→H} {w:World} {base:Nat} {spare:Nat→Bool} {held:Bool}
theorem VD:Tryz.prog.cellsOf 114=2:=by kernel_rfl
theorem ag7 {fuel:Nat}{cs:List Value}{x:DataW H × List MemPlace}(h:DataW.trod enc Tryz.prog w base spare held fuel 114 cs=some x) :
  ∃ o:Pk,(bP o.task∧bP o.q)∧cs=[.int .i64 o.task,.int .i64 o.q]:=by
 obtain⟨xs,n,rfl,_,hl,hxl,hf⟩:=DataW.trod_struct Tryz.underlying114 h;rw[VD] at hl;obtain⟨a,b,rfl⟩:=two hl;obtain⟨x0,h0⟩:∃ x,DataW.trod enc Tryz.prog w base spare held n 3 (([a,b].drop 0).take (Tryz.prog.cellsOf 3))=some x:=lH hxl hf 0 _ rfl;obtain⟨x1,h1⟩:∃ x,DataW.trod enc Tryz.prog w base spare held n 3 (([a,b].drop 1).take (Tryz.prog.cellsOf 3))=some x:=lH hxl hf 1 _ rfl;simp only[tN] at h0 h1;obtain⟨p,p1,p2⟩:=mO h0;obtain⟨q,q1,q2⟩:=mO h1;simp at p2 q2;exact⟨⟨p,q⟩,⟨p1,q1⟩,by rw[p2,q2]⟩
theorem ag8 {fuel:Nat}{cs:List Value}{x:DataW H × List MemPlace}(h:DataW.trod enc Tryz.prog w base spare held fuel 26 cs=some x) :
  ∃ (ps:List Pk) (a:Option Addr) (c:Nat),cs=[.slice a ps.length c]∧ps.length≤maxLen∧(∀ p ∈ ps,bP p.task∧bP p.q)∧qV w.heap.size w ps a:=by
 obtain⟨l,a,c,hcs,hm,_,hall⟩:=CU (n:=2) (fun _ cs' (y:Pk)=>(bP y.task∧bP y.q)∧cs'=[.int .i64 y.task,.int .i64 y.q]) Tryz.underlying26 VD (by decide) (fun f cs' x' _ hx'=>ag7 hx') h;refine⟨l,a,c,hcs,hm,fun p hp=>?_,fun i y hy=>?_⟩
 ·obtain⟨i,hi⟩:=List.getElem?_of_mem hp
  obtain⟨b,off,cs',f,he,hb,_,_,⟨h1,rfl⟩,hcell⟩:=hall i p hi;exact h1
 ·obtain⟨b,off,cs',f,he,hb,_,_,⟨_,rfl⟩,hcell⟩:=hall i y hy
  exact⟨b,off,he,hb,hcell 0 (by decide),hcell 1 (by decide)⟩
end
end Go.Proofs.YtfcpglhpolpdcaaGreatDoor.Vw
