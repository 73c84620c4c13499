/- The cells of a row of owners. -/
import Derived.Test.YtolfleeidpeomaaGreatDoorM39
import Derived.Test.YtolfleeidpeomaaGreatDoorM23
import Derived.KernelRfl
import Derived.Test.YtolfleeidpeomaaGreatDoorM21
set_option maxRecDepth 100000
set_option maxHeartbeats 1000000
namespace Go.Proofs.YtolfleeidpeomaaGreatDoor
open Go.RowKit
namespace Sm
theorem KL {w:World}{B e size n:Nat}{va:Option Addr}{vc:Nat}{xs:List Value}(h:w.ownsRow B e size (.slice va n vc) n xs){k:Nat}{u:Value}(hk:xs[k]?=some u):∃ g,va=some ⟨g,0,none⟩∧g<w.heap.size∧w.cell? ⟨g,k,none⟩=some u:=by
 rcases h.2 with ⟨e1,h0⟩ | ⟨g,cap,cur,e1,_⟩
 ·have hl:=h.1
  rw [h0] at hl
  have hx:xs=[]:=List.eq_nil_of_length_eq_zero (by simpa using hl)
  rw [hx] at hk;cases hk
 ·have e2:=e1
  simp at e2
  have:=h.cells (g:=g) (by rw [e1];rfl) k _ hk
  have hc:w.cell? ⟨g,k,none⟩=some u:=by rcases k with _ | k <;> simpa [Addr.add] using this
  exact ⟨g,e2.1,World.block_lt_of_cell? w _ hc,hc⟩
theorem Tz {B B':Nat}{w:World}(h:Gl B w)(hB:B≤B'):Gl B' w:=⟨⟨Nat.lt_of_lt_of_le h.1.1 hB,Nat.lt_of_lt_of_le h.1.2 hB⟩,h.2⟩
end Sm
namespace Sm
def TA:ByteArray:=⟨#[98,111,120,32,98,32,110,117,109,32,49,32,59,32,116,97,115,107,32,97,32,123,32,115,101,110,100,32,98,32,49,32,59,32,125,32,116,97,115,107,32,99,32,123,32,111,117,116,32,114,101,99,118,32,40,32,98,32,41,32,59,32,125]⟩
def EI:List Sy.Df:=[⟨1,⟨#[98]⟩,⟨1,⟨#[]⟩⟩,⟨0,⟨#[]⟩⟩,1,[],[]⟩,⟨4,⟨#[97]⟩,⟨0,⟨#[]⟩⟩,⟨0,⟨#[]⟩⟩,0,[],[⟨7,⟨#[98]⟩,⟨1,1,⟨#[]⟩,[]⟩,[],[]⟩]⟩,⟨4,⟨#[99]⟩,⟨0,⟨#[]⟩⟩,⟨0,⟨#[]⟩⟩,0,[],[⟨8,⟨#[]⟩,⟨20,0,⟨#[98]⟩,[]⟩,[],[]⟩]⟩]
theorem adn:kD TA=(EI,0,0):=by kernel_rfl
theorem ado:qj EI=.ok [(⟨#[98]⟩,⟨#[97]⟩,⟨#[99]⟩)]:=by kernel_rfl
theorem adp (w:World)(hT:Hid (jl w 0))(hG:Hid (Gl w.heap.size w)):Calls Tryz.prog 4 #[] w fun e w'=>e=.returned (.bool true)∧Below w.heap.size w w':=by
 go_enter Tryz.func4,Tryz.ntmps4
 have hrd:=ZQ TA (EI,0,0) w (by decide) hT.out adn.symm
 go_wp2_with fail
 refine hrd.mono ?_
 rintro e w1 ⟨a,c,rfl,_,hd,hb1⟩
 have HB1:Hid (Below w.heap.size w w1):=hb1
 have bP:Hid (Below w1.heap.size w1 (w1.alloc (.cells #[.int .i64 0,.int .i64 0] 26))):=(Below.refl _ w1).alloc (Nat.le_refl _) _
 have hF1:(w1.alloc (.cells #[.int .i64 0,.int .i64 0] 26)).heap[w1.heap.size]?=some (.cells #[.int .i64 0,.int .i64 0] 26 (0,0)):=heap_alloc_new _ _
 have fK:Hid (_=_):=hF1
 have hwk:=Tt w1.heap.size EI a c (w1.alloc (.cells #[.int .i64 0,.int .i64 0] 26)) (hd.same (xC bP.out)) bP.out.size (Tz (xq hG.out (xC (HB1.out.trans (bP.out.mono HB1.out.size)))) HB1.out.size)
 unfold Oq at hwk
 rw [ado] at hwk
 clear hd hb1 hF1 hrd
 go_wp2_with fail
 refine hwk.mono ?_
 rintro e w2 ⟨hb2,v,rfl,hown⟩
 obtain ⟨oa,oc,rfl⟩:=il hown
 obtain ⟨g,rfl,hg,c0⟩:=KL hown (k:=0) rfl
 obtain ⟨g',e',_,c1⟩:=KL hown (k:=1) rfl
 cases e'
 obtain ⟨g',e',_,c2⟩:=KL hown (k:=2) rfl
 cases e'
 have HB2:Hid (Below w.heap.size w w2):=(HB1.out.trans (bP.out.mono HB1.out.size)).trans (hb2.mono (by have:=HB1.out.size;have:=bP.out.size;omega))
 have hF2:w2.heap[w1.heap.size]?=some (.cells #[.int .i64 0,.int .i64 0] 26 (0,0)):=(hb2.block _ (by simp)).trans fK.out
 have f0:w2.cell? ⟨w1.heap.size,0,none⟩=some (.int .i64 0):=by simp [World.cell?,hF2]
 have hl1:=lt_of_block hF2
 clear hwk hown hb2 hF2
 go_wp2
 go_ret
 exact ⟨rfl,HB2.out.alloc HB2.out.size _⟩
end Sm
namespace Sm
def nH (l:List Sy.Df):Int × Nat:=match qj l with | .error x=>x | .ok _=>(0,0)
theorem TB (B:Nat)(l:List Sy.Df)(a:Option Addr)(c:Nat)(w:World)(hD:Hid (dS B w l a))(hB:B≤w.heap.size)(hG:Hid (Gl B w)) :
  Calls Tryz.prog 7 #[.slice a l.length c] w fun e w'=>e=.returned (.agg #[.int .i64 (nH l).1,.int .i64 ((nH l).2:Int)])∧Below w.heap.size w w':=by
 obtain ⟨E,hE⟩:∃ E,E=(nH l).1:=⟨_,rfl⟩
 obtain ⟨N,hN⟩:∃ N,N=(nH l).2:=⟨_,rfl⟩
 have EJ:Hid (nH l=(E,N)):=by unfold Hid;rw [hE,hN]
 rw [← hE,← hN]
 clear hE hN
 have aY:Hid (w.grownBy (w.alloc bR) none):=bn _
 have jO:Hid ((w.alloc bR).heap[w.heap.size]?=some bR):=heap_alloc_new _ _
 go_enter Tryz.func7,Tryz.ntmps7
 go_wp2_with fail
 refine (Tt B l a c _ (hD.out.same (dK aY.out (by simp) hB)) (Nat.le_trans hB aY.out.size) (xq hG.out (dK aY.out (by simp) hB))).mono ?_
 rintro e w1 h1
 obtain ⟨v,rfl,hb1⟩:∃ v,e=.returned (.tuple #[v,.agg #[.int .i64 E,.int .i64 (N:Int)]])∧Below (w.alloc bR).heap.size (w.alloc bR) w1:=by
  obtain ⟨hb,h1⟩:=h1
  have hc:=EJ.out
  unfold nH at hc
  cases ho:qj l with
  | error x =>
   rw [ho] at h1 hc
   subst hc
   exact ⟨_,h1,hb⟩
  | ok os =>
   rw [ho] at h1 hc
   cases hc
   obtain ⟨v,e1,_⟩:=h1
   exact ⟨v,e1,hb⟩
 have ax:Hid (w.grownBy w1 none):=aB aY.out (grown_of hb1)
 have hF1:=(hb1.block _ (lt_of_block jO.out)).trans jO.out
 obtain ⟨f0,f1,xx,xy⟩:=bE hF1
 obtain ⟨W2,hW2⟩:∃ W2,W2=(set2 w1 w.heap.size (.int .i64 E) (.int .i64 (N:Int))).alloc (.cells #[.int .i64 E,.int .i64 (N:Int)] 26):=⟨_,rfl⟩
 have bW:Hid (W2.heap[w.heap.size]?=some (.cells #[.int .i64 E,.int .i64 (N:Int)] 26 (0,0))):=by rw [hW2];exact (Below.heap_alloc _ _ _ (lt_of_block (BS hF1 _ _))).trans (BS hF1 _ _)
 have HB2:Hid (Below w.heap.size w W2):=by rw [hW2];exact Tn (aB (BU ax.out (Nat.le_refl _) _ _) (bn _))
 have HW2:Hid (W2=_):=hW2
 have hlt:=lt_of_block hF1
 clear hW2 hF1 h1 hb1
 go_wp2
 unfold set2 at HW2
 rw [← HW2.out]
 clear f0 f1 xx xy HW2
 obtain ⟨f0,f1,_,_⟩:=bE bW.out
 exact bodyPost_ret (v:=.agg #[.int .i64 E,.int .i64 (N:Int)]) (by simp [results,Tryz.results7,go_sem,f0,f1]) rfl ⟨rfl,HB2.out⟩
end Sm
namespace Sm
open Sy
/-! What is reckoned,bare. -/
def adq {α β:Type}(f:α→β):Except Int α→Except Int β
 | .error e=>.error e
 | .ok x=>.ok (f x)
def Mp {α β:Type}(f:α→β)(r:Except Int α)(r':Except Int β):Prop:=r'=adq f r
theorem Mp.ok {α β:Type}{f:α→β}(x:α):Mp f (.ok x) (.ok (f x)):=rfl
theorem Mp.err {α β:Type}{f:α→β}(e:Int):Mp f (.error e) (.error e):=rfl
theorem Mp.next {α β γ δ:Type}{h:α→γ}{f:β→δ}{r:Except Int α}{r':Except Int γ}{g:α→Except Int β}{g':γ→Except Int δ}(k:Mp h r r')(n:∀ x,r=.ok x→Mp f (g x) (g' (h x))):Mp f (andThen r g) (andThen r' g'):=by
 cases hr:r with
 | error e=>rw [hr] at k;rw [k];rfl
 | ok x=>rw [hr] at k;rw [k];exact n x hr
theorem Mp.ite {α β:Type}{f:α→β}{p:Prop}[Decidable p]{a b:Except Int α}{a' b':Except Int β}(h:Mp f a a')(k:Mp f b b'):Mp f (if p then a else b) (if p then a' else b'):=by split <;> assumption
theorem Mp.id {α:Type}(r:Except Int α):Mp id r r:=by cases r <;> rfl
theorem KM (t:Ty):(Sy.gU t).kind=t.kind:=rfl
theorem EK {t:Ty}(h:t.kind=3):(Sy.gU t).gen=t.gen:=by unfold Sy.gU;simp [h]
theorem TC (a b:Ty):same (Sy.gU a) (Sy.gU b)=same a b:=by
 unfold same
 rw [KM,KM]
 by_cases h3:a.kind=3
 ·by_cases hb:a.kind=b.kind
  ·rw [EK h3,EK (hb ▸ h3)]
  ·simp [hb]
 ·simp [h3]
def vB (v:Vars):Vars:=v.map fun p=>(p.1,Sy.gU p.2)
theorem look_bare (v:Vars)(s:ByteArray):look (vB v) s=(look v s).map Sy.gU:=by
 induction v with
 | nil=>rfl
 | cons p v ih =>
  unfold look vB at ih ⊢
  rw [List.map_cons,List.find?_cons,List.find?_cons]
  by_cases h:p.1=s
  ·simp [h]
  ·simp only [h,decide_false];exact ih
theorem TD (v:Vars)(s:ByteArray):Mp Sy.gU (known v s) (known (vB v) s):=by
 unfold known
 rw [look_bare]
 cases look v s <;> rfl
end Sm
end Go.Proofs.YtolfleeidpeomaaGreatDoor
