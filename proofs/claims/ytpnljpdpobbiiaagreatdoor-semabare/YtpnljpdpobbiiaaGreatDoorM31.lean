/- The walk of Check. -/
import Derived.Test.YtpnljpdpobbiiaaGreatDoorM30
set_option maxRecDepth 100000
set_option maxHeartbeats 1000000
namespace Go.Proofs.YtpnljpdpobbiiaaGreatDoor
open Go.RowKit
namespace Sm
def chk (l:List Sy.Df):Int × Nat:=match owners l with | .error x => x | .ok _ => (0,0)
theorem check_walk (B:Nat) (l:List Sy.Df) (a:Option Addr) (c:Nat) (w:World) (hD:Hid (DfsIn B w l a)) (hB:B ≤ w.heap.size) (hG:Hid (Gl B w)) :
  Calls Tryz.prog 9 #[.slice a l.length c] w fun e w' => e = .returned (.agg #[.int .i64 (chk l).1,.int .i64 ((chk l).2:Int)]) ∧ Below w.heap.size w w':=by
 obtain ⟨E,hE⟩:∃ E,E = (chk l).1:=⟨_,rfl⟩
 obtain ⟨N,hN⟩:∃ N,N = (chk l).2:=⟨_,rfl⟩
 have HEN:Hid (chk l = (E,N)):=by unfold Hid; rw [hE,hN]
 rw [← hE,← hN]
 clear hE hN
 have HG0:Hid (w.grownBy (w.alloc Z2C) none):=grown_a _
 have HF0:Hid ((w.alloc Z2C).heap[w.heap.size]? = some Z2C):=heap_alloc_new _ _
 go_enter Tryz.func9,Tryz.ntmps9
 go_wp2_with fail
 refine (owners_walk B l a c _ (hD.out.same (same_grown HG0.out (by simp) hB)) (Nat.le_trans hB HG0.out.size) (gl_same hG.out (same_grown HG0.out (by simp) hB))).mono ?_
 rintro e w1 h1
 obtain ⟨v,rfl,hb1⟩:∃ v,e = .returned (.tuple #[v,.agg #[.int .i64 E,.int .i64 (N:Int)]]) ∧ Below (w.alloc Z2C).heap.size (w.alloc Z2C) w1:=by
  obtain ⟨hb,h1⟩:=h1
  have hc:=HEN.out
  unfold chk at hc
  cases ho:owners l with
  | error x =>
   rw [ho] at h1 hc
   subst hc
   exact ⟨_,h1,hb⟩
  | ok os =>
   rw [ho] at h1 hc
   cases hc
   obtain ⟨v,e1,_⟩:=h1
   exact ⟨v,e1,hb⟩
 have HG1:Hid (w.grownBy w1 none):=grown_trans HG0.out (grown_of hb1)
 have hF1:=(hb1.block _ (lt_of_block HF0.out)).trans HF0.out
 obtain ⟨f0,f1,ff0,ff1⟩:=two_cell hF1
 obtain ⟨W2,hW2⟩:∃ W2,W2 = (set2 w1 w.heap.size (.int .i64 E) (.int .i64 (N:Int))).alloc (.cells #[.int .i64 E,.int .i64 (N:Int)] 27):=⟨_,rfl⟩
 have HF2:Hid (W2.heap[w.heap.size]? = some (.cells #[.int .i64 E,.int .i64 (N:Int)] 27 (0,0))):=by rw [hW2]; exact (Below.heap_alloc _ _ _ (lt_of_block (set2_at hF1 _ _))).trans (set2_at hF1 _ _)
 have HB2:Hid (Below w.heap.size w W2):=by rw [hW2]; exact below_of (grown_trans (set2_grown HG1.out (Nat.le_refl _) _ _) (grown_a _))
 have HW2:Hid (W2 = _):=hW2
 have hlt:=lt_of_block hF1
 clear hW2 hF1 h1 hb1
 go_wp2
 unfold set2 at HW2
 rw [← HW2.out]
 clear f0 f1 ff0 ff1 HW2
 obtain ⟨f0,f1,_,_⟩:=two_cell HF2.out
 exact bodyPost_ret (v:=.agg #[.int .i64 E,.int .i64 (N:Int)]) (by simp [results,Tryz.results9,go_sem,f0,f1]) rfl ⟨rfl,HB2.out⟩
end Sm
namespace Sm
open Sy
end Sm
namespace Sm
def has (l:List Sy.Df) (kind:Int) (name:ByteArray):Bool:=l.any fun d => d.kind == kind && d.name.toList == name.toList
end Sm
end Go.Proofs.YtpnljpdpobbiiaaGreatDoor
