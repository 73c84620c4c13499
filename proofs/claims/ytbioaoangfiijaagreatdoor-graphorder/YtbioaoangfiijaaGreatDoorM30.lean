/- Programs in memory,with more memory above them. -/
import Derived.Test.YtbioaoangfiijaaGreatDoorM2
import Derived.Test.YtbioaoangfiijaaGreatDoorM29
import Derived.Deep.Cut
set_option maxRecDepth 100000
set_option maxHeartbeats 2000000
namespace Go.Proofs.YtbioaoangfiijaaGreatDoor
open Go.RowKit
theorem ExIn.wide {B B':Nat} {w:World} (hB:B ≤ B'):∀ {h:Nat} {x:Sy.Ex} {a:Option Addr},ExIn B w h x a → ExIn B' w h x a
 | 0,_,_,hx => hx.elim
 | h + 1,_,_,hx => ⟨hx.1,hx.2.1,fun i k hk => by
  obtain ⟨b,off,a',c',e,hb,c0,c1,c2,c3,hin⟩:=hx.2.2 i k hk
  exact ⟨b,off,a',c',e,by omega,c0,c1,c2,c3,hin.wide hB⟩⟩
theorem StIn.wide {B B':Nat} {w:World} (hB:B ≤ B'):∀ {h:Nat} {s:Sy.St} {xa ba ea:Option Addr},StIn B w h s xa ba ea → StIn B' w h s xa ba ea
 | 0,_,_,_,_,hx => hx.elim
 | h + 1,_,_,_,_,hx => ⟨hx.1,hx.2.1.elim fun n hn => ⟨n,hn.wide hB⟩,hx.2.2.1,hx.2.2.2.1,
  fun i k hk => by
   obtain ⟨b,off,xa',xc,ba',bc,ea',ec,e,hb,c0,c1,c2,c3,c4,c5,c6,c7,hin⟩:=hx.2.2.2.2.1 i k hk
   exact ⟨b,off,xa',xc,ba',bc,ea',ec,e,by omega,c0,c1,c2,c3,c4,c5,c6,c7,hin.wide hB⟩,
  fun i k hk => by
   obtain ⟨b,off,xa',xc,ba',bc,ea',ec,e,hb,c0,c1,c2,c3,c4,c5,c6,c7,hin⟩:=hx.2.2.2.2.2 i k hk
   exact ⟨b,off,xa',xc,ba',bc,ea',ec,e,by omega,c0,c1,c2,c3,c4,c5,c6,c7,hin.wide hB⟩⟩
theorem BodyIn.wide {B B':Nat} {w:World} (hB:B ≤ B') {h:Nat} {l:List Sy.St} {a:Option Addr} (hx:BodyIn B w h l a):BodyIn B' w h l a :=
 ⟨hx.1,fun i k hk => by
  obtain ⟨b,off,xa',xc,ba',bc,ea',ec,e,hb,c0,c1,c2,c3,c4,c5,c6,c7,hin⟩:=hx.2 i k hk
  exact ⟨b,off,xa',xc,ba',bc,ea',ec,e,by omega,c0,c1,c2,c3,c4,c5,c6,c7,hin.wide hB⟩⟩
theorem DfIn.wide {B B':Nat} {w:World} (hB:B ≤ B') {d:Sy.Df} {pa ba:Option Addr} (hx:DfIn B w d pa ba):DfIn B' w d pa ba:=by
 obtain ⟨h1,h2,h3,⟨hp,hpm⟩,h,hb⟩:=hx
 refine ⟨h1,h2,h3,⟨hp,fun i p hi => ?_⟩,h,hb.wide hB⟩
 obtain ⟨b,off,e,hb,c0,c1,c2,z1,z2⟩:=hpm i p hi
 exact ⟨b,off,e,by omega,c0,c1,c2,z1,z2⟩
theorem DfsIn.wide {B B':Nat} {w:World} (hB:B ≤ B') {l:List Sy.Df} {a:Option Addr} (hx:DfsIn B w l a):DfsIn B' w l a :=
 ⟨hx.1,fun i d hd => by
  obtain ⟨b,off,pa,pc,ba,bc,ha,hb,c0,c1,c2,c3,c4,c5,c6,c7,c8,hin⟩:=hx.2 i d hd
  exact ⟨b,off,pa,pc,ba,bc,ha,by omega,c0,c1,c2,c3,c4,c5,c6,c7,c8,hin.wide hB⟩⟩
namespace Sm
def Oq (l:List Sy.Df) (w:World) (e:Ending) (w':World):Prop:=Below w.heap.size w w' ∧ match owners l with
 | .error x => e = .returned (.tuple #[.slice none 0 0,.agg #[.int .i64 x.1,.int .i64 (x.2:Int)]])
 | .ok os => ∃ v,e = .returned (.tuple #[v,.agg #[.int .i64 0,.int .i64 0]]) ∧ w'.ownsRow w.heap.size 54 3 v os.length (ows os)
abbrev dfsO (l:List Sy.Df) (a:Option Addr) (c:Nat):Obj:=.cells #[.slice a l.length c] 22 (0,0)
abbrev outO:Obj:=.cells #[.slice none 0 0] 50 (0,0)
theorem below_of {w w':World} (h:w.grownBy w' none):Below w.heap.size w w':=⟨h.os,h.tape,h.output,h.size,fun k hk => h.block k hk (by simp)⟩
theorem grown_of {w w':World} (h:Below w.heap.size w w'):w.grownBy w' none:=⟨h.os,h.tape,h.output,h.size,fun k hk _ => h.block k hk⟩
def set2 (w:World) (b:Nat) (x y:Value):World:=(w.setCell ⟨b,0,none⟩ x).setCell ⟨b,1,none⟩ y
theorem set2_other {w:World} {b k:Nat} (h:k ≠ b) (x y:Value):(set2 w b x y).heap[k]? = w.heap[k]?:=(Below.heap_setCell _ ⟨b,1,none⟩ y k h).trans (Below.heap_setCell w ⟨b,0,none⟩ x k h)
theorem set2_at {w:World} {b:Nat} {u v:Value} {t:TypeId} (h:w.heap[b]? = some (.cells #[u,v] t (0,0))) (x y:Value):(set2 w b x y).heap[b]? = some (.cells #[x,y] t (0,0)):=by
 simp only [set2,World.setCell,Array.getElem?_modify,if_true,h,Option.map_some]
 rfl
theorem set2_grown {w w1:World} {b:Nat} (h:w.grownBy w1 none) (hb:w.heap.size ≤ b) (x y:Value):w.grownBy (set2 w1 b x y) none:=grown_own h (grown_trans (grown_at w1 b 0 x) (grown_at _ b 1 y)) hb
theorem res_any {W:World} {O F:Nat} {u x' y':Value} {tO tF:TypeId} (hO:W.heap[O]? = some (.cells #[u] tO (0,0))) (hF:W.heap[F]? = some (.cells #[x',y'] tF (0,0))) (hne:O ≠ F) (v x y:Value) :
  (set2 (W.setCell ⟨O,0,none⟩ v) F x y).drew.cell? ⟨O,0,none⟩ = some v ∧ (set2 (W.setCell ⟨O,0,none⟩ v) F x y).drew.cell? ⟨F,0,none⟩ = some x ∧ (set2 (W.setCell ⟨O,0,none⟩ v) F x y).drew.cell? ⟨F,1,none⟩ = some y:=by
 have h1:(W.setCell ⟨O,0,none⟩ v).heap[O]? = some (.cells #[v] tO (0,0)):=by
  simp only [World.setCell,Array.getElem?_modify,if_true,hO,Option.map_some]
  rfl
 have h2:(W.setCell ⟨O,0,none⟩ v).heap[F]? = some (.cells #[x',y'] tF (0,0)):=(Below.heap_setCell W ⟨O,0,none⟩ v F (Ne.symm hne)).trans hF
 have h3:(set2 (W.setCell ⟨O,0,none⟩ v) F x y).drew.heap[O]? = some (.cells #[v] tO (0,0)):=(set2_other hne x y).trans h1
 have h4:(set2 (W.setCell ⟨O,0,none⟩ v) F x y).drew.heap[F]? = some (.cells #[x,y] tF (0,0)):=set2_at h2 x y
 generalize (set2 (W.setCell ⟨O,0,none⟩ v) F x y).drew = W' at *
 refine ⟨?_,?_,?_⟩ <;> simp [World.cell?,h3,h4]
theorem res_below {w W:World} {O F:Nat} (h:w.grownBy W none) (hO:w.heap.size ≤ O) (hF:w.heap.size ≤ F) (v x y:Value):Below w.heap.size w (set2 (W.setCell ⟨O,0,none⟩ v) F x y).drew :=
 (below_of (set2_grown (grown_own h (grown_at W O 0 v) hO) hF x y)).drew
def Ot (l:List Sy.Df) (e n:Int):Prop:=match owners2 l with
 | .error x => e = x.1 ∧ n = x.2 ∧ x.1 ≠ 0
 | .ok _ => e = 0 ∧ n = 0
def Or (l:List Sy.Df) (B O:Nat) (w':World):Prop:=match owners2 l with
 | .error _ => w'.heap[O]? = some outO
 | .ok os => ∃ v,w'.heap[O]? = some (.cells #[v] 50 (0,0)) ∧ w'.ownsRow B 54 3 v os.length (ows os)
theorem Or.set2 {l:List Sy.Df} {B O b:Nat} {w:World} (h:Or l B O w) (hne:O ≠ b) {o:Array Value} {t:TypeId} (hb:w.heap[b]? = some (.cells o t (0,0))) (ht:54 ≠ t) (x y:Value):Or l B O (set2 w b x y):=by
 unfold Or at h ⊢
 split at h
 ·exact (set2_other hne x y).trans h
 ·obtain ⟨v,h1,h2⟩:=h
  refine ⟨v,(set2_other hne x y).trans h1,own_keep h2 (fun k hk => set2_other ?_ x y)⟩
  rintro rfl
  obtain ⟨_,_,cur,hc⟩:=own_lt h2 k hk
  rw [hb] at hc
  cases hc
  exact ht rfl
theorem oc_caught {l:List Sy.Df} {w W w':World} {e:Ending} {O F R:Nat} {e2 n2:Int} {x y:Value} (hg:w.grownBy W none) (hT:Ot l e2 n2) (hO:W.heap[O]? = some outO) (hF:W.heap[F]? = some (.cells #[x,y] 27 (0,0))) (hR:W.heap[R]? = some Z2C) (hOw:w.heap.size ≤ O) (h:Oc l O W e w') :
  (w.grownBy w' none ∧ (∃ x y,w'.heap[F]? = some (.cells #[x,y] 27 (0,0))) ∧ Or l w.heap.size O w') ∧ w'.heap[R]? = some Z2C ∧ Thrown e2 n2 e:=by
 have hW:w.heap.size ≤ W.heap.size:=hg.size
 unfold Oc at h
 unfold Ot at hT
 unfold Or
 cases ho:owners2 l with
 | error z =>
  rw [ho] at h hT
  obtain ⟨rfl,hg2⟩:=h
  obtain ⟨rfl,rfl,hne⟩:=hT
  have k:∀ {b:Nat} {o:Obj},W.heap[b]? = some o → w'.heap[b]? = some o:=fun hb => (hg2.block _ (lt_of_block hb) (by simp)).trans hb
  exact ⟨⟨grown_trans hg hg2,⟨x,y,k hF⟩,k hO⟩,k hR,thrown_bad rfl hne⟩
 | ok os =>
  rw [ho] at h hT
  obtain ⟨rfl,hg2,v,hv,hrow⟩:=h
  obtain ⟨rfl,rfl⟩:=hT
  have k:∀ {b:Nat} {o:Obj},W.heap[b]? = some o → b ≠ O → w'.heap[b]? = some o:=fun hb hn => (hg2.block _ (lt_of_block hb) (by simpa using hn)).trans hb
  have hOF:F ≠ O:=by rintro rfl; rw [hF] at hO; cases hO
  have hOR:R ≠ O:=by rintro rfl; rw [hR] at hO; cases hO
  exact ⟨⟨grown_own hg hg2 hOw,⟨x,y,k hF hOF⟩,v,hv,own_base hrow hW⟩,k hR hOR,thrown_ok rfl⟩
theorem or_open {l:List Sy.Df} {B O:Nat} {w:World} (h:Or l B O w):∃ va vn vc,w.heap[O]? = some (.cells #[.slice va vn vc] 50 (0,0)) ∧ ((∃ x,owners2 l = .error x ∧ (.slice va vn vc:Value) = .slice none 0 0) ∨ ∃ os,owners2 l = .ok os ∧ w.ownsRow B 54 3 (.slice va vn vc) os.length (ows os)):=by
 unfold Or at h
 cases ho:owners2 l with
 | error x => rw [ho] at h; exact ⟨_,_,_,h,.inl ⟨x,rfl,rfl⟩⟩
 | ok os =>
  rw [ho] at h
  obtain ⟨v,hv,hrow⟩:=h
  obtain ⟨a,c,rfl⟩:=own_form hrow
  exact ⟨_,_,_,hv,.inr ⟨os,rfl,hrow⟩⟩
theorem oq_end {l:List Sy.Df} {w W:World} {e2 n2:Int} {va:Option Addr} {vn vc:Nat} {x y:Value} (hw:(Sy.wrongL l).1 = 0) (hT:Ot l e2 n2) (hg:w.grownBy W none) (hv:W.heap[w.heap.size + 1]? = some (.cells #[.slice va vn vc] 50 (0,0))) (hF:W.heap[w.heap.size + 1 + 1]? = some (.cells #[x,y] 27 (0,0)))
  (hrow:(∃ x,owners2 l = .error x ∧ (.slice va vn vc:Value) = .slice none 0 0) ∨ ∃ os,owners2 l = .ok os ∧ W.ownsRow w.heap.size 54 3 (.slice va vn vc) os.length (ows os)) :
  Oq l w (.returned (.tuple #[.slice va vn vc,.agg #[.int .i64 e2,.int .i64 n2]])) (set2 (W.setCell ⟨w.heap.size + 1,0,none⟩ (.slice va vn vc)) (w.heap.size + 1 + 1) (.int .i64 e2) (.int .i64 n2)).drew:=by
 have he:owners l = owners2 l:=by rw [owners_eq,if_neg (by simpa using hw)]
 refine ⟨res_below hg (by omega) (by omega) _ _ _,?_⟩
 unfold Ot at hT
 rw [he]
 rcases hrow with ⟨z,ho,e⟩ | ⟨os,ho,hr⟩
 ·rw [ho] at hT ⊢
  obtain ⟨rfl,rfl,_⟩:=hT
  rw [e]
 ·rw [ho] at hT ⊢
  obtain ⟨rfl,rfl⟩:=hT
  refine ⟨_,rfl,own_keep hr (fun k hk => ?_)⟩
  obtain ⟨_,_,cur,hc⟩:=own_lt hr k hk
  have h1:k ≠ w.heap.size + 1:=by rintro rfl; rw [hv] at hc; cases hc
  have h2:k ≠ w.heap.size + 1 + 1:=by rintro rfl; rw [hF] at hc; cases hc
  exact (set2_other h2 _ _).trans (Below.heap_setCell W ⟨w.heap.size + 1,0,none⟩ _ k h1)
theorem owners_walk (B:Nat) (l:List Sy.Df) (a:Option Addr) (c:Nat) (w:World) (hD:Hid (DfsIn B w l a)) (hB:B ≤ w.heap.size) (hG:Hid (Gl B w)) :
  Calls Tryz.prog 13 #[.slice a l.length c] w fun e w' => Oq l w e w':=by
 obtain ⟨W0,hW0⟩:∃ W0,W0 = ((w.alloc (dfsO l a c)).alloc outO).alloc Z2C:=⟨_,rfl⟩
 have HG0:Hid (w.grownBy W0 none):=by rw [hW0]; exact grown_trans (grown_a2 _ _) (grown_a _)
 have HP0:Hid (W0.heap[w.heap.size]? = some (dfsO l a c)):=by rw [hW0]; exact (Below.heap_alloc _ _ _ (by simp; omega)).trans ((Below.heap_alloc _ _ _ (by simp)).trans (heap_alloc_new _ _))
 have HO0:Hid (W0.heap[w.heap.size + 1]? = some outO):=by
  rw [hW0]
  have:=heap_alloc_new (w.alloc (dfsO l a c)) outO
  rw [World.size_alloc] at this
  exact (Below.heap_alloc _ _ _ (by simp)).trans this
 have HF0:Hid (W0.heap[w.heap.size + 1 + 1]? = some Z2C):=by
  rw [hW0]
  have:=heap_alloc_new ((w.alloc (dfsO l a c)).alloc outO) Z2C
  rw [World.size_alloc,World.size_alloc] at this
  exact this
 have HW0:Hid (W0 = _):=hW0
 clear hW0
 obtain ⟨L,hL⟩:∃ L,L = l.length:=⟨_,rfl⟩
 have HL:Hid (L = l.length):=hL
 go_enter Tryz.func13,Tryz.ntmps13
 go_wp2_with fail
 rw [← HW0.out]
 refine (wrong_any l a c W0 ((hD.out.same (same_grown HG0.out (by simp) hB)).wide (Nat.le_trans hB HG0.out.size))).mono ?_
 rintro e w1 ⟨rfl,hb1⟩
 obtain ⟨er,her⟩:∃ x,x = (Sy.wrongL l).1:=⟨_,rfl⟩
 obtain ⟨nr,hnr⟩:∃ x,x = (Sy.wrongL l).2:=⟨_,rfl⟩
 rw [← her,← hnr]
 have HER:Hid (er = (Sy.wrongL l).1):=her
 have HNR:Hid (nr = (Sy.wrongL l).2):=hnr
 clear her hnr
 have hg1:=grown_of hb1
 have HG1:Hid (w.grownBy w1 none):=grown_trans HG0.out hg1
 have HP1:Hid (w1.heap[w.heap.size]? = some (dfsO l a c)):=(hg1.block _ (lt_of_block HP0.out) (by simp)).trans HP0.out
 have HO1:Hid (w1.heap[w.heap.size + 1]? = some outO):=(hg1.block _ (lt_of_block HO0.out) (by simp)).trans HO0.out
 have hF1:w1.heap[w.heap.size + 1 + 1]? = some Z2C:=(hg1.block _ (lt_of_block HF0.out) (by simp)).trans HF0.out
 obtain ⟨f0,f1,ff0,ff1⟩:=two_cell hF1
 obtain ⟨W2,hW2⟩:∃ W2,W2 = set2 w1 (w.heap.size + 1 + 1) (.int .i64 er) (.int .i64 (nr:Int)):=⟨_,rfl⟩
 have HG2:Hid (w.grownBy W2 none):=by rw [hW2]; exact set2_grown HG1.out (by omega) _ _
 have HP2:Hid (W2.heap[w.heap.size]? = some (dfsO l a c)):=by rw [hW2]; exact (set2_other (by omega) _ _).trans HP1.out
 have HO2:Hid (W2.heap[w.heap.size + 1]? = some outO):=by rw [hW2]; exact (set2_other (by omega) _ _).trans HO1.out
 have HF2:Hid (W2.heap[w.heap.size + 1 + 1]? = some (.cells #[.int .i64 er,.int .i64 (nr:Int)] 27 (0,0))):=by rw [hW2]; exact set2_at hF1 _ _
 have HW2:Hid (W2 = _):=hW2
 clear hW2 hb1 hg1 hF1 HW0 HG0 HP0 HO0 HF0 HG1 HP1 HO1
 go_upto_region 2 with fail
 unfold set2 at HW2
 rw [← HW2.out]
 clear f0 f1 ff0 ff1 HW2
 obtain ⟨f0,f1,ff0,ff1⟩:=two_cell HF2.out
 by_cases h0:er = 0
 ·have e0:(er != 0) = false:=by simpa using h0
  have hw0:(Sy.wrongL l).1 = 0:=by rw [← HER.out]; exact h0
  have HW:Hid ((Sy.wrongL l).1 = 0):=hw0
  have HOw:Hid (owners l = owners2 l):=by unfold Hid; rw [owners_eq,if_neg (by simpa using hw0)]
  obtain ⟨e2,n2,hz2,hthr⟩:∃ (e2 n2:Int),(e2 = 0 → n2 = 0) ∧ Ot l e2 n2:=by
   cases ho:owners2 l with
   | error x => exact ⟨x.1,x.2,fun h => absurd h (owners2_ne l x ho),by unfold Ot; rw [ho]; exact ⟨rfl,rfl,owners2_ne l x ho⟩⟩
   | ok os => exact ⟨0,0,fun _ => rfl,by unfold Ot; rw [ho]; exact ⟨rfl,rfl⟩⟩
  have HT:Hid (Ot l e2 n2):=hthr
  have hmf:∀ (fn:Fn) (first cap:Array Value) (w:World),(Instr.makeFunc fn first cap).run Tryz.prog w = .ok (.func fn first cap) w:=fun _ _ _ _ => rfl
  clear h0 hw0 hthr
  go_wp2_with fail
  refine (caught_any 21 #[.pointer (some ⟨w.heap.size,0,none⟩),.pointer (some ⟨w.heap.size + 1,0,none⟩)] e2 n2 (fun w' => w.grownBy w' none ∧ (∃ x y,w'.heap[w.heap.size + 1 + 1]? = some (.cells #[x,y] 27 (0,0))) ∧ Or l w.heap.size (w.heap.size + 1) w') W2 hz2 ?_ ?_).mono ?_
  ·intro w'
   first | rfl | kernel_rfl | simp [go_sem]
  ·refine (own1_any B l a c w.heap.size (w.heap.size + 1) (W2.alloc Z2C) (hD.out.same (same_grown (grown_trans HG2.out (grown_a _)) (by simp) hB)) (Nat.le_trans hB (grown_trans HG2.out (grown_a Z2C)).size) (gl_same hG.out (same_grown (grown_trans HG2.out (grown_a _)) (by simp) hB)) HW ((Below.heap_alloc _ _ _ (lt_of_block HP2.out)).trans HP2.out) ((Below.heap_alloc _ _ _ (lt_of_block HO2.out)).trans HO2.out)).mono ?_
   rintro e w' h
   exact oc_caught (grown_trans HG2.out (grown_a _)) HT.out ((Below.heap_alloc _ _ _ (lt_of_block HO2.out)).trans HO2.out) ((Below.heap_alloc _ _ _ (lt_of_block HF2.out)).trans HF2.out) (heap_alloc_new _ _) (Nat.le_succ _) h
  ·rintro e w3 ⟨rfl,wx,⟨hgx,⟨x,y,hFx⟩,hOx⟩,hZx,rfl⟩
   have hbig:w.heap.size + 1 + 1 < W2.heap.size:=lt_of_block HF2.out
   have HG3:=hid (set2_grown hgx (by omega:w.heap.size ≤ W2.heap.size) (.int .i64 e2) (.int .i64 n2))
   have hF3:=(set2_other (w:=wx) (b:=W2.heap.size) (by omega:w.heap.size + 1 + 1 ≠ W2.heap.size) (.int .i64 e2) (.int .i64 n2)).trans hFx
   have HO3:=hid (hOx.set2 (by omega:w.heap.size + 1 ≠ W2.heap.size) hZx (by decide) (.int .i64 e2) (.int .i64 n2))
   unfold set2 at HG3 hF3 HO3
   generalize (wx.setCell ⟨W2.heap.size,0,none⟩ (.int .i64 e2)).setCell ⟨W2.heap.size,1,none⟩ (.int .i64 n2) = W3 at *
   clear hgx hFx hOx hZx hbig HG2 HP2 HO2 HF2
   obtain ⟨f0,f1,ff0,ff1⟩:=two_cell hF3
   obtain ⟨W4,hW4⟩:∃ W4,W4 = set2 W3 (w.heap.size + 1 + 1) (.int .i64 e2) (.int .i64 n2):=⟨_,rfl⟩
   have HG4:Hid (w.grownBy W4 none):=by rw [hW4]; exact set2_grown HG3.out (by omega) _ _
   have HF4:Hid (W4.heap[w.heap.size + 1 + 1]? = some (.cells #[.int .i64 e2,.int .i64 n2] 27 (0,0))):=by rw [hW4]; exact set2_at hF3 _ _
   have HO4:Hid (Or l w.heap.size (w.heap.size + 1) W4):=by rw [hW4]; exact HO3.out.set2 (by omega) hF3 (by decide) _ _
   have HW4:Hid (W4 = _):=hW4
   clear hW4 HG3 hF3 HO3
   go_upto_region 5 with fail
   unfold set2 at HW4
   rw [← HW4.out]
   clear f0 f1 ff0 ff1 HW4
   obtain ⟨f0,f1,ff0,ff1⟩:=two_cell HF4.out
   obtain ⟨va,vn,vc,hv,hrow⟩:=or_open HO4.out
   have ho0:W4.cell? ⟨w.heap.size + 1,0,none⟩ = some (.slice va vn vc):=by simp [World.cell?,hv]
   have hof:W4.frozen? ⟨w.heap.size + 1,0,none⟩ = false:=by simp [World.frozen?,hv]
   have HZ:=hid (res_any hv HF4.out (by omega) (.slice va vn vc) (.int .i64 e2) (.int .i64 n2))
   have HE:Hid (Oq l w (.returned (.tuple #[.slice va vn vc,.agg #[.int .i64 e2,.int .i64 n2]])) (set2 (W4.setCell ⟨w.heap.size + 1,0,none⟩ (.slice va vn vc)) (w.heap.size + 1 + 1) (.int .i64 e2) (.int .i64 n2)).drew):=oq_end HW.out HT.out HG4.out hv HF4.out hrow
   unfold set2 at HZ HE
   clear hv hrow HF4 HO4 HG4
   go_region
   generalize (((W4.setCell ⟨w.heap.size + 1,0,none⟩ (.slice va vn vc)).setCell ⟨w.heap.size + 1 + 1,0,none⟩ (.int .i64 e2)).setCell ⟨w.heap.size + 1 + 1,1,none⟩ (.int .i64 n2)).drew = W9 at *
   obtain ⟨z0,z1,z2⟩:=HZ.out
   go_wp2
   exact bodyPost_ret (v:=.tuple #[.slice va vn vc,.agg #[.int .i64 e2,.int .i64 n2]]) (by simp [results,Tryz.results13,go_sem,z0,z1,z2]) rfl HE.out
 ·have e0:(er != 0) = true:=by simpa using h0
  have ho0:W2.cell? ⟨w.heap.size + 1,0,none⟩ = some (.slice none 0 0):=by simp [World.cell?,HO2.out]
  have hof:W2.frozen? ⟨w.heap.size + 1,0,none⟩ = false:=by simp [World.frozen?,HO2.out]
  have HOw:Hid (owners l = .error (er,nr)):=by unfold Hid; rw [owners_eq,if_pos (by rw [← HER.out]; exact h0),HER.out,HNR.out]
  have HZ:=hid (res_any HO2.out HF2.out (by omega) (.slice none 0 0) (.int .i64 er) (.int .i64 (nr:Int)))
  have HB:=hid (res_below HG2.out (O:=w.heap.size + 1) (F:=w.heap.size + 1 + 1) (by omega) (by omega) (.slice none 0 0) (.int .i64 er) (.int .i64 (nr:Int)))
  unfold set2 at HZ HB
  clear h0
  go_wp2
  go_region
  generalize (((W2.setCell ⟨w.heap.size + 1,0,none⟩ (.slice none 0 0)).setCell ⟨w.heap.size + 1 + 1,0,none⟩ (.int .i64 er)).setCell ⟨w.heap.size + 1 + 1,1,none⟩ (.int .i64 (nr:Int))).drew = W9 at *
  obtain ⟨z0,z1,z2⟩:=HZ.out
  go_wp2
  exact bodyPost_ret (v:=.tuple #[.slice none 0 0,.agg #[.int .i64 er,.int .i64 (nr:Int)]]) (by simp [results,Tryz.results13,go_sem,z0,z1,z2]) rfl ⟨HB.out,by rw [HOw.out]⟩
end Sm
end Go.Proofs.YtbioaoangfiijaaGreatDoor
