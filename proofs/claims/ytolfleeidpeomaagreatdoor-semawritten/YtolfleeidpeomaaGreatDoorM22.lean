/- What is wrong with a program is none that is nothing;what it means that a text is a program. -/
import Derived.Test.YtolfleeidpeomaaGreatDoorM2
import Derived.Test.YtolfleeidpeomaaGreatDoorM21
import Derived.Test.YtolfleeidpeomaaGreatDoorM12
set_option maxRecDepth 100000
set_option maxHeartbeats 1000000
namespace Go.Proofs.YtolfleeidpeomaaGreatDoor
namespace Sy
/-! A fault is none that is nothing. -/
def Nz {α:Type}(f:α→Nat→Except Int Nat):Prop:=∀ a n e,f a n=.error e→e≠0
theorem Iz {α:Type}{f:α→Nat→Except Int Nat}(hf:Nz f):Nz (runs f)
 | [],n,e,h=>by simp [runs] at h
 | a :: l,n,e,h=>by
  rw [runs] at h
  cases ha:f a n with
  | error e'=>rw [ha] at h;simp only [Except.error.injEq] at h;rw [← h];exact hf a n e' ha
  | ok j=>rw [ha] at h;exact Iz hf l j e h
theorem Px:∀ d,Nz (aF d)
 | 0=>fun x n e h=>by simp only [aF,Except.error.injEq] at h;omega
 | d+1=>fun x n e h=>by
  rw [aF] at h
  split at h
  ·rename_i h0;simp only [Except.error.injEq] at h;rw [← h];exact h0
  ·split at h
   ·rename_i h0;simp only [Except.error.injEq] at h;rw [← h];exact h0
   ·exact Iz (Px d) _ _ _ h
theorem IA {f:St→Nat→Except Int Nat}(hf:Nz f):Nz (cO f):=fun l n e h=>by
 unfold cO at h
 split at h
 ·simp only [Except.error.injEq] at h;omega
 ·exact Iz hf _ _ _ h
theorem IB:∀ d,Nz (aO d)
 | 0=>fun x n e h=>by simp only [aO,Except.error.injEq] at h;omega
 | d+1=>fun x n e h=>by
  rw [aO] at h
  split at h
  ·rename_i h0;simp only [Except.error.injEq] at h;rw [← h];exact h0
  ·split at h
   ·simp only [Except.error.injEq] at h;omega
   ·split at h
    ·simp at h
    ·cases he:aF d x.x (n+1) with
     | error e'=>rw [he] at h;simp only [Except.error.injEq] at h;rw [← h];exact Px d _ _ _ he
     | ok j =>
      rw [he] at h
      simp only [dN] at h
      split at h
      ·cases hb:cO (aO d) x.body j with
       | error e'=>rw [hb] at h;simp only [Except.error.injEq] at h;rw [← h];exact IA (IB d) _ _ _ hb
       | ok j2 =>
        rw [hb] at h
        simp only at h
        split at h
        ·exact IA (IB d) _ _ _ h
        ·simp at h
      ·simp at h
theorem ZA:Nz dX:=fun x n e h=>by
 unfold dX at h
 split at h
 ·rename_i h0;simp only [Except.error.injEq] at h;rw [← h];exact h0
 ·split at h
  ·simp at h
  ·exact IA (IB 39) _ _ _ h
end Sy
end Go.Proofs.YtolfleeidpeomaaGreatDoor
namespace Go.Proofs.YtolfleeidpeomaaGreatDoor
open Go.RowKit
theorem uD {w:World}{N:Nat}{a b:Int}{t:TypeId}(h:w.heap[N]?=some (.cells #[.int .i64 a,.int .i64 b] t (0,0)))(x y:Int):((w.setCell ⟨N,0,none⟩ (.int .i64 x)).setCell ⟨N,1,none⟩ (.int .i64 y)).heap[N]?=some (.cells #[.int .i64 x,.int .i64 y] t (0,0)):=by
 simp only [World.setCell,Array.getElem?_modify,if_true,h,Option.map_some]
 rfl
theorem ZB (s:ByteArray)(w:World)(hs:s.size≤maxLen)(hE:(Lx.lexB s).2.1≠0) :
  Calls Tryz.prog 6 #[.string s] w fun e w'=>e=.returned (.tuple #[.slice none 0 0,.agg #[.int .i64 (Lx.lexB s).2.1,.int .i64 (Lx.lexB s).2.2]])∧Below w.heap.size w w':=by
 obtain ⟨er,her⟩:∃ er:Nat,er=(Lx.lexB s).2.1:=⟨_,rfl⟩
 obtain ⟨num,kW⟩:∃ num:Nat,num=(Lx.lexB s).2.2:=⟨_,rfl⟩
 have HT:=aa (Fx s ((w.alloc (gm (.slice none 0 0))).alloc bR) hs)
 rw [← her,← kW] at HT
 rw [← her] at hE
 rw [← her,← kW]
 have e1:((er:Int) != 0)=true:=by simp;omega
 clear her kW hE
 go_enter Tryz.func6,Tryz.ntmps6
 go_wp2_with fail
 refine HT.out.mono ?_
 rintro e w1 ⟨v,rfl,hown,hb⟩
 have HB:Hid (Below w.heap.size w w1):=(((Below.refl _ w).alloc (Nat.le_refl _) _).alloc (by simp) _).trans (hb.mono (by simp;omega))
 have hN:w1.heap[w.heap.size]?=some (gm (.slice none 0 0)):=(hb.block _ (by simp;omega)).trans ((Below.heap_alloc _ _ _ (by simp)).trans (heap_alloc_new w _))
 have hF:w1.heap[w.heap.size+1]?=some bR:=(hb.block _ (by simp)).trans (by have:=heap_alloc_new (w.alloc (gm (.slice none 0 0))) bR;simpa using this)
 obtain ⟨c0,f0⟩:=nV hN
 obtain ⟨z0,z1,y0,y1⟩:=bE hF
 have gL:(((((w1.setCell ⟨w.heap.size+1,0,none⟩ (.int .i64 er)).setCell ⟨w.heap.size+1,1,none⟩ (.int .i64 num)).setCell ⟨w.heap.size,0,none⟩ (.slice none 0 0)).setCell ⟨w.heap.size+1,0,none⟩ (.int .i64 er)).setCell ⟨w.heap.size+1,1,none⟩ (.int .i64 num)).heap[w.heap.size+1]?=some (.cells #[.int .i64 er,.int .i64 num] 26 (0,0)):=uD ((Below.heap_setCell _ ⟨w.heap.size,0,none⟩ _ _ (by show w.heap.size+1≠w.heap.size;omega)).trans (uD hF er num)) er num
 obtain ⟨p0,p1,_,_⟩:=bE gL
 have P0:=aa p0
 have P1:=aa p1
 clear hown hb hN hF HT gL p0 p1
 go_wp2
 go_region
 all_goals
  go_wp2
  refine bodyPost_ret (v:=.tuple #[.slice none 0 0,.agg #[.int .i64 er,.int .i64 num]]) (by simp [results,Tryz.results6,go_sem,c0,P0.out,P1.out]) rfl ⟨rfl,?_⟩
  repeat (first | exact HB.out | exact HB.out.drew | refine Below.setCell ?_ (by first | exact Nat.le_refl _ | exact Nat.le_succ _) _ | refine Below.drew ?_)
theorem Py:∀ (l:List Lx.Tk) (i:Nat) (t:Lx.Tk),l[i]?=some t→∀ j,j<4→(Lx.cellsOf l)[i * 4+j]?=t.cells[j]?
 | [],i,t,h,_,_=>by simp at h
 | y :: l,0,t,h,j,hj=>by
  simp at h;subst h
  show (y.cells++Lx.cellsOf l)[0 * 4+j]?=_
  rw [Nat.zero_mul,Nat.zero_add,List.getElem?_append_left (by simpa [Lx.Tk.cells] using hj)]
 | y :: l,i+1,t,h,j,hj=>by
  have ih:=Py l i t (by simpa using h) j hj
  show (y.cells++Lx.cellsOf l)[(i+1) * 4+j]?=_
  rw [List.getElem?_append_right (by simp [Lx.Tk.cells];omega),← ih]
  congr 1
  simp [Lx.Tk.cells]
  omega
theorem IC {w:World}{B n:Nat}{v:Value}{l:List Lx.Tk}(h:w.ownsRow B 88 4 v n (Lx.cellsOf l))(hl:l.length≤6000)(hok:zu l):∃ a c,v=.slice a l.length c∧gq w.heap.size w l a:=by
 have hn:l.length=n:=by have:=h.1;rw [Lx.Uo] at this;omega
 subst hn
 rcases h.2 with ⟨rfl,h0⟩ | ⟨g,cap,cur,rfl,hg,hh,_,_,_,ht⟩
 ·refine ⟨none,0,by rw [h0],hl,fun i t hi=>?_⟩
  have:=(List.getElem?_eq_some_iff.1 hi).1
  omega
 ·refine ⟨_,cap,rfl,hl,fun i t hi=>⟨g,0,rfl,lt_of_block hh,?_⟩⟩
  have key:∀ j,j<4→w.cell? ⟨g,0+i * 4+j,none⟩=t.cells[j]?:=by
   intro j hj
   have hil:=(List.getElem?_eq_some_iff.1 hi).1
   have e:=Py l i t hi j hj
   rw [← ht,List.getElem?_take,if_pos (by omega)] at e
   rw [← e]
   simp [World.cell?,hh]
  have h6:=(hok t (List.mem_of_getElem? hi)).1
  exact ⟨key 0 (by decide),key 1 (by decide),key 2 (by decide),key 3 (by decide),by unfold maxLen;omega⟩
theorem ZC {w1 w2:World}{l:List Lx.Tk}{ta:Option Addr}{tc en:Nat}(hown:gq w1.heap.size w1 l ta)(hb:Below w1.heap.size w1 w2)(hM:w2.heap[w1.heap.size]?=some (.map jZ.toArray 13)) :
  az ⟨w2.heap.size,w2.heap.size,w1.heap.size,ta,tc,l,en⟩ (w2.alloc (.cells #[.slice ta l.length tc,.int .i64 0,.int .i64 en,.map (some w1.heap.size),.int .i64 0] 61)) 0 0:=by
 have hlt:=lt_of_block hM
 refine ⟨heap_alloc_new w2 _,⟨hown.1,fun i t hi=>?_⟩,(Below.heap_alloc _ _ _ hlt).trans hM⟩
 obtain ⟨b,off,e,hbb,c0,c1,c2,c3,hm⟩:=hown.2 i t hi
 have hbl:(w2.alloc (.cells #[.slice ta l.length tc,.int .i64 0,.int .i64 en,.map (some w1.heap.size),.int .i64 0] 61)).heap[b]?=w1.heap[b]?:=(Below.heap_alloc _ _ _ (by have:=hb.size;omega)).trans (hb.block b hbb)
 have hc:∀ o,(w2.alloc (.cells #[.slice ta l.length tc,.int .i64 0,.int .i64 en,.map (some w1.heap.size),.int .i64 0] 61)).cell? ⟨b,o,none⟩=w1.cell? ⟨b,o,none⟩:=fun o=>by simp only [World.cell?,hbl]
 exact ⟨b,off,e,by show b<w2.heap.size;have:=hb.size;omega,(hc _).trans c0,(hc _).trans c1,(hc _).trans c2,(hc _).trans c3,hm⟩
theorem ZF {w:World}{B e size n k:Nat}{v:Value}{xs:List Value}{cs:Array Value}{t:TypeId}{fr:Nat × Nat}(h:w.ownsRow B e size v n xs)(hk:w.heap[k]?=some (.cells cs t fr))(ht:t≠e):v.ownBlock≠some k:=by
 rcases h.2 with ⟨rfl,_⟩ | ⟨g',cap,cur,rfl,_,hh,_⟩
 ·simp [Value.ownBlock]
 ·intro e1
  simp only [Value.ownBlock,Option.some.injEq] at e1
  subst e1
  rw [hh] at hk
  simp at hk
  exact ht hk.2.1.symm
theorem ZG {w w':World}{B e size n:Nat}{v:Value}{xs:List Value}(h:w.ownsRow B e size v n xs)(hk:∀ k,v.ownBlock=some k→w'.heap[k]?=w.heap[k]?):w'.ownsRow B e size v n xs:=by
 refine ⟨h.1,?_⟩
 rcases h.2 with h2 | ⟨g',cap,cur,rfl,hB,hh,hr⟩
 ·exact .inl h2
 ·exact .inr ⟨g',cap,cur,rfl,hB,(hk g' rfl).trans hh,hr⟩
theorem qf (w:World)(N:Nat)(u v:Value){k:Nat}(hk:k≠N):((w.setCell ⟨N,0,none⟩ u).setCell ⟨N,1,none⟩ v).heap[k]?=w.heap[k]?:=by
 rw [Below.heap_setCell _ ⟨N,1,none⟩ _ _ hk,Below.heap_setCell _ ⟨N,0,none⟩ _ _ hk]
theorem yu (w:World)(N:Nat)(u v:Value):((w.setCell ⟨N,0,none⟩ u).setCell ⟨N,1,none⟩ v).heap.size=w.heap.size:=by simp [World.setCell]
structure ZH (s:ByteArray) (w:World) (w2 W:World) (M:Nat) (ta:Option Addr) (tc:Nat):Prop where
 below:Below w.heap.size w W
 out:W.heap[w.heap.size]?=some (gm (.slice none 0 0))
 Pz:∃ num:Nat,W.heap[w.heap.size+1]?=some (.cells #[.int .i64 0,.int .i64 num] 26 (0,0))
 eP:az ⟨w2.heap.size,w2.heap.size,M,ta,tc,(Lx.lexB s).1,s.size⟩ W 0 0
 ne:M≠w2.heap.size
 size:w.heap.size+1<w2.heap.size
 len:W.heap.size=w2.heap.size+1
theorem PD {s:ByteArray}{w w1 w2:World}{num:Nat}{v:Value}(hown:w1.ownsRow (w.heap.size+2) 88 4 v (Lx.lexB s).1.length (Lx.cellsOf (Lx.lexB s).1))(hb:Below (w.heap.size+2) ((w.alloc (gm (.slice none 0 0))).alloc bR) w1)
  (hM:w2.heap[w1.heap.size]?=some (.map jZ.toArray 13)) (hb2:Below w1.heap.size ((w1.setCell ⟨w.heap.size+1,0,none⟩ (.int .i64 0)).setCell ⟨w.heap.size+1,1,none⟩ (.int .i64 num)) w2) :
  ∃ ta tc,v=.slice ta (Lx.lexB s).1.length tc∧ZH s w w2 (w2.alloc (.cells #[.slice ta (Lx.lexB s).1.length tc,.int .i64 0,.int .i64 s.size,.map (some w1.heap.size),.int .i64 0] 61)) w1.heap.size ta tc:=by
 have hz:=hb.size
 simp at hz
 have hF:w1.heap[w.heap.size+1]?=some bR:=(hb.block _ (by omega)).trans (by have:=heap_alloc_new (w.alloc (gm (.slice none 0 0))) bR;simpa using this)
 have hN:w1.heap[w.heap.size]?=some (gm (.slice none 0 0)):=(hb.block _ (by omega)).trans ((Below.heap_alloc _ _ _ (by simp)).trans (heap_alloc_new w _))
 have hsz:=yu w1 (w.heap.size+1) (.int .i64 0) (.int .i64 num)
 have IE:∀ k,k≠w.heap.size+1→((w1.setCell ⟨w.heap.size+1,0,none⟩ (.int .i64 0)).setCell ⟨w.heap.size+1,1,none⟩ (.int .i64 num)).heap[k]?=w1.heap[k]?:=fun k hk=>qf _ _ _ _ hk
 have hF1:=uD hF 0 (num:Int)
 have hos:((w1.setCell ⟨w.heap.size+1,0,none⟩ (.int .i64 0)).setCell ⟨w.heap.size+1,1,none⟩ (.int .i64 num)).os=w1.os:=rfl
 have ZI:((w1.setCell ⟨w.heap.size+1,0,none⟩ (.int .i64 0)).setCell ⟨w.heap.size+1,1,none⟩ (.int .i64 num)).tape=w1.tape:=rfl
 have hou:((w1.setCell ⟨w.heap.size+1,0,none⟩ (.int .i64 0)).setCell ⟨w.heap.size+1,1,none⟩ (.int .i64 num)).output=w1.output:=rfl
 generalize (w1.setCell ⟨w.heap.size+1,0,none⟩ (.int .i64 0)).setCell ⟨w.heap.size+1,1,none⟩ (.int .i64 num)=wc at *
 have hown1:wc.ownsRow (w.heap.size+2) 88 4 v (Lx.lexB s).1.length (Lx.cellsOf (Lx.lexB s).1):=ZG hown (fun k hk=>IE k (fun e=>by subst e;exact ZF hown hF (by decide) hk))
 obtain ⟨ta,tc,rfl,htk⟩:=IC hown1 (Lx.rz s).1 (Lx.rz s).2
 rw [← hsz] at hM hb2
 have hs2:=hb2.size
 have hlt:=lt_of_block hM
 have PE:=ZC (tc:=tc) (en:=s.size) htk hb2 hM
 refine ⟨ta,tc,rfl,⟨?_,?_,⟨num,?_⟩,?_,?_,?_,?_⟩⟩
 ·have h1:Below w.heap.size w w1:=(((Below.refl _ w).alloc (Nat.le_refl _) _).alloc (by simp) _).trans (hb.mono (by omega))
  have h2:Below w.heap.size w w2:=⟨hb2.os.trans (hos.trans h1.os),hb2.tape.trans (ZI.trans h1.tape),hb2.output.trans (hou.trans h1.output),by omega,fun k hk=>by rw [hb2.block k (by omega),IE k (by omega)];exact h1.block k hk⟩
  exact h2.alloc (by omega) _
 ·rw [Below.heap_alloc _ _ _ (by omega),hb2.block _ (by omega),IE _ (by omega)];exact hN
 ·rw [Below.heap_alloc _ _ _ (by omega),hb2.block _ (by omega)];exact hF1
 ·rw [hsz] at PE;exact PE
 ·omega
 ·omega
 ·simp
end Go.Proofs.YtolfleeidpeomaaGreatDoor
