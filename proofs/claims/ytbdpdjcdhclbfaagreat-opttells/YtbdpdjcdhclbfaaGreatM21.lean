/- The walk of opt.moveJumps: jumps go where their places have come to. -/
import Derived.Test.YtbdpdjcdhclbfaaGreatM20
import Derived.Laws.IdiomCopy
import Derived.Test.YtbdpdjcdhclbfaaGreatM19
import Derived.ArgAppend
set_option maxRecDepth 100000
set_option maxHeartbeats 4000000
namespace Go.Proofs.YtbdpdjcdhclbfaaGreat.Ow
open Go.RowKit Vf Vm Ot
def jk (w:World)(g:Nat)(t:TypeId)(N:Nat):Prop:=∃ cur:Array Value,w.heap[g]?=some (.cells cur t (0,0))∧cur.size=N
theorem jk.lt {w:World}{g N:Nat}{t:TypeId}(h:jk w g t N):g<w.heap.size:=by
 obtain⟨cur,h1,_⟩:=h;exact lt_of_block h1
theorem jk.keep {w w':World}{g N:Nat}{t:TypeId}(h:jk w g t N)(hk:w'.heap[g]?=w.heap[g]?):jk w' g t N:=by
 obtain⟨cur,h1,h2⟩:=h;exact⟨cur,hk.trans h1,h2⟩
theorem jk.cell {w:World}{g N i:Nat}{t:TypeId}(h:jk w g t N)(hi:i<N):(w.cell? ⟨g,i,none⟩).isSome=true∧w.frozen? ⟨g,i,none⟩=false:=by
 obtain⟨cur,h1,h2⟩:=h;have:i<cur.size:=by omega
 simp[World.cell?,World.frozen?,h1,this]
theorem jk.set {w:World}{g N:Nat}{t:TypeId}(h:jk w g t N)(p:Addr)(v:Value):jk (w.setCell p v) g t N:=by
 obtain⟨cur,h1,h2⟩:=h;by_cases e:g=p.block
 ·subst e
  obtain⟨b,o,s⟩:=p;cases s with
  | none =>
   refine⟨cur.setIfInBounds o v,?_,by simpa using h2⟩;simp only[World.setCell,Array.getElem?_modify,if_true] at h1 ⊢;rw[h1];rfl
  | some k =>
   refine⟨cur,?_,h2⟩;simp only[World.setCell,Array.getElem?_modify,if_true] at h1 ⊢;rw[h1];rfl
 ·exact⟨cur,(Below.heap_setCell _ p _ _ e).trans h1,h2⟩
theorem Kh {w:World}{b o:Nat}{v u:Value}(h:w.cell? ⟨b,o,none⟩=some u):(w.setCell ⟨b,o,none⟩ v).cell? ⟨b,o,none⟩=some v:=by
 have:=World.cell?_setCells_in b [v] o w (fun j hj=>by
  obtain rfl:j=0:=by simpa using hj
  rw[Nat.add_zero,h];rfl) 0 (by simp)
 simpa[World.setCells] using this
theorem Ce {w:World}{b o b' o':Nat}{v:Value}(h:b'=b→o'≠o):(w.setCell ⟨b,o,none⟩ v).cell? ⟨b',o',none⟩=w.cell? ⟨b',o',none⟩:=by
 have:=World.cell?_setCells_out b [v] o w ⟨b',o',none⟩ (fun e _=>by have:=h e;simp;omega);simpa[World.setCells] using this
theorem Ig {B:Nat}{w:World}{l:List Ins}{g k:Nat}{c:Ins}(h:aV B w l (some ⟨g,0,none⟩))(hc:l[k]?=some c){v:Int}(hv:dA v):aV B (w.setCell ⟨g,k * 3+1,none⟩ (.int .i64 v)) (l.set k { c with a:=v }) (some ⟨g,0,none⟩):=fun i x hx=>by
 by_cases e:i=k
 ·subst e
  have hi:=(List.getElem?_eq_some_iff.1 hc).1;rw[List.getElem?_set_self hi] at hx;cases hx;obtain⟨h1,h2,h3,b,o,e,hb,c0,c1,c2⟩:=h i c hc;cases e;refine⟨h1,hv,h3,g,0,rfl,hb,(Ce (fun _=>by omega)).trans c0,?_,(Ce (fun _=>by omega)).trans c2⟩;rw[Nat.zero_add] at c1 ⊢;exact Kh c1
 ·rw[List.getElem?_set_ne (fun h=>e h.symm)] at hx
  obtain⟨h1,h2,h3,b,o,e',hb,c0,c1,c2⟩:=h i x hx;cases e';exact⟨h1,h2,h3,g,0,rfl,hb,(Ce (fun _=>by omega)).trans c0,(Ce (fun _=>by omega)).trans c1,(Ce (fun _=>by omega)).trans c2⟩
theorem xG {B:Nat}{w w':World}{l:List Ins}{g off:Nat}(h:aV B w l (some ⟨g,off,none⟩))(hk:w'.heap[g]?=w.heap[g]?):aV B w' l (some ⟨g,off,none⟩):=fun i x hx=>by
 obtain⟨h1,h2,h3,b,o,e,hb,c0,c1,c2⟩:=h i x hx;cases e;exact⟨h1,h2,h3,g,off,rfl,hb,(gZ hk _).trans c0,(gZ hk _).trans c1,(gZ hk _).trans c2⟩
theorem set_self {l:List Ins}{k:Nat}{c:Ins}(h:l[k]?=some c):l.set k c=l:=by
 obtain⟨h1,h2⟩:=List.getElem?_eq_some_iff.1 h;rw[← h2];exact List.set_getElem_self h1
def half (ps:List (Nat × Ch))(o:List Ins)(k:Nat):List Ins:=(o.take k).map (moved ps)++o.drop k
theorem R7 {ps:List (Nat × Ch)}{o:List Ins}{k:Nat}{c:Ins}(h:o[k]?=some c):(half ps o k)[k]?=some c∧half ps o (k+1)=(half ps o k).set k (moved ps c):=by
 obtain⟨hk,hc⟩:=List.getElem?_eq_some_iff.1 h;have hl:((o.take k).map (moved ps)).length=k:=by simp;omega
 unfold half;refine⟨?_,?_⟩
 ·rw[List.getElem?_append_right (by omega),hl,Nat.sub_self,List.getElem?_drop,Nat.add_zero]
  exact h
 ·rw[List.set_append_right _ _ (by omega),hl,Nat.sub_self,List.drop_eq_getElem_cons hk,hc,List.set_cons_zero,List.take_add_one,h]
  simp
theorem R8 (ps:List (Nat × Ch))(o:List Ins):half ps o 0=o:=by simp[half]
theorem R9 (ps:List (Nat × Ch))(o:List Ins):half ps o o.length=o.map (moved ps):=by simp[half]
theorem yz {w w':World}{g:Nat}(h:w.grownBy w' (some g))(p:Addr)(hp:p.block=g)(v:Value):w.grownBy (w'.setCell p v) (some g) :=
 ⟨h.os,h.tape,h.output,by simpa using h.size,fun k hk hne=>(Below.heap_setCell _ p _ _ (fun e=>hne (by rw[e,hp]))).trans (h.block k hk hne)⟩
theorem Z8 (P g cap R M W n0 B:Nat)(ps:List (Nat × Ch))(o:List Ins)(w:World)(hP:Hid (w.heap[P]?=some (BP g o.length cap R M W n0)))(Z9:P≠g)(hWg:W≠g)(hb:Hid (jk w g 47 (cap * 3)))(hoc:o.length≤cap)(hC:Hid (aV B w o (some ⟨g,0,none⟩)))(hl:o.length≤4000)
  (hj:Hid (∀ c ∈ o,jmp c=true→0≤c.a∧c.a<n0∧now ps c.a.toNat≤4000∧w.cell? ⟨W,c.a.toNat,none⟩=some (.int .i64 (now ps c.a.toNat:Nat)))) :
  Calls Tryz.prog 40 #[.pointer (some ⟨P,0,none⟩)] w fun e w'=>e=.returned (.tuple #[])∧aV B w' (o.map (moved ps)) (some ⟨g,0,none⟩)∧jk w' g 47 (cap * 3)∧w.grownBy w' (some g):=by
 obtain⟨n,hn⟩:∃ n,n=o.length:=⟨_,rfl⟩;rw[← hn] at hP hl hoc;have HN:=hide hn;have n1:(n:Int)≤4000:=by omega
 have JA:=lt_of_block hP.out;have HWl:Hid (∀ c ∈ o,jmp c=true→W<w.heap.size):=fun c hc hjc=>World.block_lt_of_cell? w _ (hj.out c hc hjc).2.2.2;clear hn;obtain⟨p0,p1,p2,p3⟩:=yL hP.out;go_enter Tryz.func40,Tryz.ntmps40
 go_wp2
 clear p0 p1 p2 p3;go_loopw [9] (fun i wr=>∃ k:Nat,k≤n∧i=.int .i64 k∧aV B wr (half ps o k) (some ⟨g,0,none⟩)∧jk wr g 47 (cap * 3)∧w.grownBy wr (some g)) (fun i _=>n - (intOf i).toNat)
 case atStart=>exact⟨0,Nat.zero_le _,rfl,by rw[R8];exact hC.out,hb.out,World.grownBy.refl _ _⟩
 case round =>
  obtain⟨k,hk,rfl,Ih,hbk,Cc⟩:=hrel;have yT:=hide Ih;have xg:=hide hbk;have zF:=hide Cc;clear Ih hbk Cc;by_cases hlt:k<n
  ·obtain⟨c,hc⟩:∃ c,o[k]?=some c:=⟨_,List.getElem?_eq_getElem (by rw[← HN.out];exact hlt)⟩
   obtain⟨hh,Ii⟩:=R7 (ps:=ps) hc;obtain⟨_,x0,x1,x2⟩:=Ar yT.out hh;rw[Nat.zero_add] at x0 x1 x2;have Ei:=hide Ii;have HH:=hide hh;have Ki:=hide hc;have k0:(0:Int)≤(k:Int):=by omega
   have k1:(k:Int)<(n:Int):=by omega
   have hgl:g<wr.heap.size:=xg.out.lt;obtain⟨W2,hW2⟩:∃ W2,W2=(wr.alloc (fF c)).alloc (fF c):=⟨_,rfl⟩;have hb2:Below wr.heap.size wr W2:=by rw[hW2];exact vY _ _ _
   have hq:W2.heap[wr.heap.size]?=some (fF c):=by
    rw[hW2,Below.heap_alloc _ _ _ (by simp)];exact heap_alloc_new _ _
   have HW2:=hide hW2.symm;have zY:=hide (xG yT.out (hb2.block g hgl));have HB2:=hide (xg.out.keep (hb2.block g hgl));have HG2:Hid (w.grownBy W2 (some g)):=Ic zF.out (Fv hb2 _);have HQ:=hide hq;clear hc hW2 hb2 hq hh Ii;go_wp2_with fail
   refine (PS c _).mono ?_;rintro e w3 ⟨rfl,rfl⟩;rw[HW2.out];clear HW2;cases hjc:jmp c with
   | true =>
    obtain⟨c0,c1,c4,cw⟩:=hj.out c (List.mem_of_getElem? Ki.out) hjc;have Ij:=HWl.out c (List.mem_of_getElem? Ki.out) hjc;obtain⟨q0,q1,q2,q3⟩:=yL ((HG2.out.block P JA (by intro e;cases e;exact Z9 rfl)).trans hP.out);have hcw:W2.cell? ⟨W,c.a.toNat,none⟩=some (.int .i64 (now ps c.a.toNat:Nat)):=(gZ (HG2.out.block W Ij (by intro e;cases e;exact hWg rfl)) _).trans cw;have b1:W2.cell? ⟨wr.heap.size,1,none⟩=some (.int .i64 c.a):=by simp[World.cell?,HQ.out]
    have hgw:¬ wr.heap.size=g:=by omega
    obtain⟨y,hy⟩:=Option.isSome_iff_exists.1 (HB2.out.cell (i:=k * 3+1) (by omega)).1;have hz:=(HB2.out.cell (i:=k * 3+1) (by omega)).2;have HE:Hid (aV B (W2.setCell ⟨g,k * 3+1,none⟩ (.int .i64 (now ps c.a.toNat:Nat))).drew (half ps o (k+1)) (some ⟨g,0,none⟩)):=by
     unfold Hid;rw[Ei.out];have:moved ps c={ c with a:=(now ps c.a.toNat:Nat) }:=by unfold moved;rw[if_pos hjc]
     rw[this];exact xG (Ig zY.out HH.out ⟨by omega,by omega⟩) rfl
    have HF:Hid (jk (W2.setCell ⟨g,k * 3+1,none⟩ (.int .i64 (now ps c.a.toNat:Nat))).drew g 47 (cap * 3)):=jk.keep (jk.set HB2.out _ _) rfl;have Cf:Hid (w.grownBy (W2.setCell ⟨g,k * 3+1,none⟩ (.int .i64 (now ps c.a.toNat:Nat))).drew (some g)):=by
     have h:=yz HG2.out ⟨g,k * 3+1,none⟩ rfl (.int .i64 (now ps c.a.toNat:Nat));exact⟨h.os,h.tape,h.output,h.size,h.block⟩
    clear Ij cw c4;go_wp2
    go_region
    go_wp2
    go_roundw
    case rel=>exact⟨k+1,by omega,by go_num,HE.out,HF.out,Cf.out⟩
    case measure=>simp[intOf];omega
   | false =>
    have HE:Hid (aV B W2 (half ps o (k+1)) (some ⟨g,0,none⟩)):=by
     unfold Hid;rw[Ei.out];have:moved ps c=c:=by unfold moved;rw[if_neg (by rw[hjc];decide)]
     rw[this,set_self HH.out];exact zY.out
    go_wp2
    go_roundw
    case rel=>exact⟨k+1,by omega,by go_num,HE.out,HB2.out,HG2.out⟩
    case measure=>simp[intOf];omega
  ·obtain rfl:k=n:=by omega
   have HE:Hid (half ps o k=o.map (moved ps)):=by unfold Hid;rw[HN.out,R9]
   go_wp2
   go_end0
   exact⟨rfl,by rw[← HE.out];exact yT.out,xg.out,zF.out⟩
def Ik (c:Ins):Prop:=dA c.op∧dA c.a∧dA c.n
theorem wrap_i64 (n:Int):dA (wrap n):=by
 unfold Vm.wrap wrap64;constructor<;>omega
theorem aac {a b:Int}(h:dA a):dA (a.tmod b):=by
 have h1:(a.tmod b).natAbs=a.natAbs % b.natAbs:=Int.natAbs_tmod a b;have h2:=Nat.mod_le a.natAbs b.natAbs;by_cases h0:0≤a
 ·have:=Int.tmod_nonneg b h0
  constructor<;>omega
 ·have h3:a.tmod b≤0:=by
   have:=Int.tmod_nonneg b (show 0≤-a by omega);rw[Int.neg_tmod] at this;omega
  constructor<;>omega
theorem aad (b:Bool):dA (yes b):=by cases b<;>constructor<;>decide
theorem Sa {op a b:Int}(ha:dA a):dA (two op a b):=by
 unfold two;split
 ·exact wrap_i64 _
 split
 ·exact wrap_i64 _
 split
 ·exact wrap_i64 _
 split
 ·exact wrap_i64 _
 split
 ·exact aac ha
 ·exact aad _
theorem aae {c:Ins}(h:Ik c):dA (word c):=by
 unfold word;split
 ·exact h.2.2
 ·exact h.2.1
theorem Sb {l:List Ins}(hl:∀ c ∈ l,Ik c){x:Nat}(hx:x<l.length){d:Ins}(hd:d ∈ (change l x).2):Ik d:=by
 have z:dA 0:=by constructor<;>decide
 have o1:dA 1:=by constructor<;>decide
 have o2:dA 2:=by constructor<;>decide
 have sG:dA 21:=by constructor<;>decide
 rcases Js l x with h | ⟨_,h⟩
 ·rw[h,List.getElem?_eq_getElem hx] at hd
  simp only[List.mem_singleton,Option.getD_some] at hd;rw[hd];exact hl _ (List.getElem_mem hx)
 ·rcases h with⟨a,b,c,hr,e⟩ | ⟨a,b,hr,e⟩ | ⟨a,b,hr,e⟩ | ⟨a,b,hr,e⟩ | ⟨a,b,hr,e⟩ | ⟨a,_,_,_,e⟩
  ·rw[e] at hd
   simp only[List.mem_singleton] at hd;subst hd;have ha:=aae (hl a (List.mem_of_getElem? hr.h0));unfold Ot.comes;split
   ·exact⟨o1,z,Sa ha⟩
   ·exact⟨o2,Sa ha,z⟩
  ·rw[e] at hd;cases hd
  ·rw[e] at hd
   simp only[yH,List.mem_singleton] at hd;subst hd;exact⟨o1,z,wrap_i64 _⟩
  ·rw[e] at hd
   simp only[ym,List.mem_singleton] at hd;subst hd;exact⟨o2,wrap_i64 _,z⟩
  ·rw[e] at hd
   simp only[vF] at hd;split at hd
   ·simp only[List.mem_singleton] at hd
    subst hd;exact⟨sG,(hl b (List.mem_of_getElem? hr.h1)).2.1,z⟩
   ·cases hd
  ·rw[e] at hd;cases hd
theorem MV {B:Nat}{w:World}{l:List Ins}{a:Option Addr}(h:aV B w l a):∀ c ∈ l,Ik c:=fun c hc=>by
 obtain⟨i,hi⟩:=List.getElem?_of_mem hc;obtain⟨h1,h2,h3,_⟩:=h i c hi;exact⟨h1,h2,h3⟩
abbrev tQ (c:Ins):List Value:=[.int .i64 c.op,.int .i64 c.a,.int .i64 c.n]
theorem aaf {B:Nat}{w:World}{o:List Ins}{g N:Nat}{c:Ins}(h:aV B w o (some ⟨g,0,none⟩))(hb:jk w g 47 N)(hN:o.length * 3+3≤N)(hB:g<B)(hc:Ik c):aV B (w.setCells g (o.length * 3) (tQ c)) (o++[c]) (some ⟨g,0,none⟩):=fun i x hx=>by
 by_cases e:i<o.length
 ·rw[List.getElem?_append_left e] at hx
  obtain⟨h1,h2,h3,b,off,e',hb',c0,c1,c2⟩:=h i x hx;cases e';refine⟨h1,h2,h3,g,0,rfl,hb',?_,?_,?_⟩
  ·rw[World.cell?_setCells_out _ _ _ _ _ (fun _ _=>.inl (by show 0+i * 3<o.length * 3;omega))]
   exact c0
  ·rw[World.cell?_setCells_out _ _ _ _ _ (fun _ _=>.inl (by show 0+i * 3+1<o.length * 3;omega))]
   exact c1
  ·rw[World.cell?_setCells_out _ _ _ _ _ (fun _ _=>.inl (by show 0+i * 3+2<o.length * 3;omega))]
   exact c2
 ·rw[List.getElem?_append_right (by omega)] at hx
  have hi:i=o.length:=by
   have:=(List.getElem?_eq_some_iff.1 hx).1;simp at this;omega
  subst hi;simp at hx;subst hx;have hin:=World.cell?_setCells_in g (tQ c) (o.length * 3) w (fun j hj=>(hb.cell (by simp at hj;omega)).1);refine⟨hc.1,hc.2.1,hc.2.2,g,0,rfl,hB,?_,?_,?_⟩
  ·have:=hin 0 (by simp)
   simpa using this
  ·have:=hin 1 (by simp)
   simpa using this
  ·have:=hin 2 (by simp)
   simpa using this
theorem aag {B:Nat}{w:World}{r:List Ins}{g k off:Nat}{vs:List Value}(h:aV B w r (some ⟨g,off,none⟩))(hk:k+vs.length≤off):aV B (w.setCells g k vs) r (some ⟨g,off,none⟩):=fun i x hx=>by
 obtain⟨h1,h2,h3,b,o,e',hb',c0,c1,c2⟩:=h i x hx;cases e';refine⟨h1,h2,h3,g,off,rfl,hb',?_,?_,?_⟩
 ·rw[World.cell?_setCells_out _ _ _ _ _ (fun _ _=>.inr (by show k+vs.length≤off+i * 3;omega))]
  exact c0
 ·rw[World.cell?_setCells_out _ _ _ _ _ (fun _ _=>.inr (by show k+vs.length≤off+i * 3+1;omega))]
  exact c1
 ·rw[World.cell?_setCells_out _ _ _ _ _ (fun _ _=>.inr (by show k+vs.length≤off+i * 3+2;omega))]
  exact c2
theorem MW {g N:Nat}{t:TypeId}{b:Nat}:∀ (vs:List Value) (o:Nat) {w:World},jk w g t N→jk (w.setCells b o vs) g t N
 | [],_,_,h=>h
 | v :: r,o,_,h=>MW r (o+1) (h.set _ v)
theorem Kj (b:Nat){k:Nat}(hk:k≠b):∀ (vs:List Value) (o:Nat) (w:World),(w.setCells b o vs).heap[k]?=w.heap[k]?
 | [],_,_=>rfl
 | v :: r,o,w=>(Kj b hk r (o+1) _).trans (Below.heap_setCell w ⟨b,o,none⟩ v k hk)
theorem Sc (b:Nat):∀ (vs:List Value) (o:Nat) (w:World),(w.setCells b o vs).heap.size=w.heap.size
 | [],_,_=>rfl
 | v :: r,o,w=>(Sc b r (o+1) _).trans (by simp)
theorem Kk (b:Nat):∀ (vs:List Value) (o:Nat) (w:World),(w.setCells b o vs).os=w.os∧(w.setCells b o vs).tape=w.tape∧(w.setCells b o vs).output=w.output
 | [],_,_=>⟨rfl,rfl,rfl⟩
 | v :: r,o,w=>Kk b r (o+1) (w.setCell ⟨b,o,none⟩ v)
structure kY (S:Nat→Prop) (w w':World):Prop where
 os:w'.os=w.os
 tape:w'.tape=w.tape
 output:w'.output=w.output
 size:w.heap.size≤w'.heap.size
 block:∀ k,k<w.heap.size→¬ S k→w'.heap[k]?=w.heap[k]?
theorem kY.refl (S:Nat→Prop)(w:World):kY S w w:=⟨rfl,rfl,rfl,Nat.le_refl _,fun _ _ _=>rfl⟩
theorem kY.trans {S:Nat→Prop}{a b c:World}(h:kY S a b)(k:kY S b c):kY S a c:=⟨k.os.trans h.os,k.tape.trans h.tape,k.output.trans h.output,Nat.le_trans h.size k.size,fun j h1 h2=>(k.block j (Nat.lt_of_lt_of_le h1 h.size) h2).trans (h.block j h1 h2)⟩
theorem kY.mono {S T:Nat→Prop}{a b:World}(h:kY S a b)(hs:∀ k,S k→T k):kY T a b:=⟨h.os,h.tape,h.output,h.size,fun j h1 h2=>h.block j h1 (fun e=>h2 (hs j e))⟩
theorem kY.of {S:Nat→Prop}{a b:World}(h:Below a.heap.size a b):kY S a b:=⟨h.os,h.tape,h.output,h.size,fun j h1 _=>h.block j h1⟩
theorem kY.gm {S:Nat→Prop}{a b:World}{g:Nat}(h:a.grownBy b (some g))(hg:S g):kY S a b:=⟨h.os,h.tape,h.output,h.size,fun j h1 h2=>h.block j h1 (fun e=>by cases e;exact h2 hg)⟩
theorem kY.set {S:Nat→Prop}{a b:World}(h:kY S a b)(p:Addr)(hp:S p.block)(v:Value):kY S a (b.setCell p v):=⟨h.os,h.tape,h.output,by simpa using h.size,fun j h1 h2=>(Below.heap_setCell _ p _ _ (fun e=>h2 (by rw[e];exact hp))).trans (h.block j h1 h2)⟩
theorem kY.sets {S:Nat→Prop}{a b:World}(h:kY S a b)(g:Nat)(hg:S g)(o:Nat)(vs:List Value):kY S a (b.setCells g o vs):=⟨(Kk g vs o b).1.trans h.os,(Kk g vs o b).2.1.trans h.tape,(Kk g vs o b).2.2.trans h.output,by rw[Sc];exact h.size,fun j h1 h2=>(Kj g (fun e=>h2 (by rw[e];exact hg)) vs o b).trans (h.block j h1 h2)⟩
theorem aah {w:World}{g n cap:Nat}{b off cp:Nat}{c:Ins}(hb:jk w g 47 (cap * 3))(hn:n+1≤cap)(h0:w.cell? ⟨b,off,none⟩=some (.int .i64 c.op))(h1:w.cell? ⟨b,off+1,none⟩=some (.int .i64 c.a))(h2:w.cell? ⟨b,off+2,none⟩=some (.int .i64 c.n)) :
  (Builtin.append_ #[38,38] 38 #[.slice (some ⟨g,0,none⟩) n cap,.slice (some ⟨b,off,none⟩) 1 cp]).run Tryz.prog w=.ok (.slice (some ⟨g,0,none⟩) (n+1) cap) (w.setCells g (n * 3) (tQ c)):=by
 obtain⟨i,hi,_,hz1,_⟩:∃ i,Tryz.prog.info? 47=some i∧i.zero=some (.agg #[.int .i64 0,.int .i64 0,.int .i64 0])∧i.size=3∧i.bytes=24:=by
  have h:(Tryz.prog.info? 47).map (fun i=>(i.zero,i.size,i.bytes))=some (some (.agg #[.int .i64 0,.int .i64 0,.int .i64 0]),3,24):=by kernel_rfl
  obtain⟨i,hi,h⟩:=Option.map_eq_some_iff.1 h;simp only[Prod.mk.injEq] at h;exact⟨i,hi,h.1,h.2.1,h.2.2⟩
 have:=run_append_room_cells (P:=Tryz.prog) (w:=w) 38 38 47 i Tryz.underlying38 hi g 0 n cap ⟨b,off,none⟩ 1 cp (tQ c) (by rw[hz1];rfl) (fun j u hu=>by
  rcases j with _ | _ | _ | j
  ·cases hu;exact h0
  ·cases hu;exact h1
  ·cases hu;exact h2
  ·simp at hu) (fun u hu=>by
  simp at hu;rcases hu with rfl | rfl | rfl<;>rfl) hn (fun j hj=>(hb.cell (by rw[hz1];simp at hj;omega)).1) (fun j hj=>(hb.cell (by rw[hz1];simp at hj;omega)).2)
 rw[hz1,Nat.zero_add] at this;exact this
theorem wpList_append_run {P:Program}{w:World}{ops:Array Oper}{rest:List Oper}{o:Oper}{a:Act}{Q:Exit→Act→World→Prop}(hgd:o.guard=none)(s x:Operand)(t:TypeId)
  (ho:o.op=.call { callee:=.builtin .append,args:=#[s,x],argTypes:=#[t,t] }) (v vx v':Value) (w':World) (hs:a.eval s=v) (hx:a.eval x=vx) (hrun:(Builtin.append_ #[t,t] o.type #[v,vx]).run P w=.ok v' w')
  (h:wpList P ops Q rest (a.put o.dst v') w'):wpList P ops Q (o :: rest) a w:=by
 refine wpList_plain hgd fun K hK=>?_;unfold Oper.wp;simp[execOp,ho,resolve,invoke,builtin,hs,hx,hrun,Result.andThen];exact hK _ _ h
theorem aai {w:World}{g n cap:Nat}(hn:n≤cap):(Builtin.append_ #[38,38] 38 #[.slice (some ⟨g,0,none⟩) n cap,.slice none 0 0]).run Tryz.prog w=.ok (.slice (some ⟨g,0,none⟩) n cap) w:=by
 obtain⟨i,hi⟩:∃ i,Tryz.prog.info? 47=some i:=by
  have h:(Tryz.prog.info? 47).isSome=true:=by kernel_rfl
  exact Option.isSome_iff_exists.1 h
 simp[Builtin.append_,run_underlying Tryz.underlying38,sizeOf,typeInfo,hi,Builtin.lenOf,Builtin.firstCells,hn,storeCells]
theorem aaj {ps:List (Nat × Ch)}{N:Nat}(h:∀ p ∈ ps,p.1<N):now ps N=(out ps).length:=by
 induction ps with
 | nil=>rfl
 | cons p ps ih =>
  rw[now,if_pos (h p List.mem_cons_self),ih (fun q hq=>h q (List.mem_cons_of_mem _ hq))];show _=(p.2.2++out ps).length
  rw[List.length_append]
theorem aak (l:List Ins):now (all l) l.length=(out (all l)).length:=aaj (fun _ hp=>(Aq l _ _ _ hp).2.1)
theorem Sd (l:List Ins):∀ (f k x y:Nat),uP (pieces l f k) x→uP (pieces l f k) y→x<y→x+(change l x).1≤y
 | 0,_,_,_,⟨c,h⟩,_,_=>by cases h
 | f+1,k,x,y,⟨c,hx⟩,⟨d,hy⟩,hlt=>by
  have hp:=yn l k;by_cases hk:k<l.length
  ·rw[pieces,if_pos hk] at hx hy
   rcases List.mem_cons.1 hy with h | hy'
   ·cases h
    rcases List.mem_cons.1 hx with h | hx'
    ·cases h;omega
    ·have h1:k+(change l k).1≤x:=(Aq l _ _ _ hx').1
     omega
   ·have h1:k+(change l k).1≤y:=(Aq l _ _ _ hy').1
    rcases List.mem_cons.1 hx with h | hx'
    ·cases h;exact h1
    ·exact Sd l f _ x y ⟨c,hx'⟩ ⟨d,hy'⟩ hlt
  ·rw[pieces,if_neg hk] at hx
   cases hx
theorem inside {l:List Ins}{x y:Nat}(hx:uP (all l) x)(hy:uP (all l) y)(h1:x<y)(h2:y<x+(change l x).1):False:=by
 have:=Sd l _ _ x y hx hy h1;omega
structure Fw (g cap W n0 B:Nat) (l:List Ins) (w:World):Prop where
 code:aV B w l (some ⟨g,0,none⟩)
 blk:jk w g 47 (cap * 3)
 now:jk w W 3 n0
structure zG (g cap W n0 B:Nat) (l:List Ins) (x:Nat) (o:List Ins) (w:World):Prop where
 le:x≤l.length
 at':x=l.length∨uP (all l) x
 len:o.length=now (all l) x
 few:o.length≤x
 pre:o=(out (all l)).take o.length
 left:aV B w o (some ⟨g,0,none⟩)
 rest:aV B w (l.drop x) (some ⟨g,x * 3,none⟩)
 blk:jk w g 47 (cap * 3)
 Fx:jk w W 3 n0
 MX:∀ y,y<x→uP (all l) y→w.cell? ⟨W,y,none⟩=some (.int .i64 (now (all l) y:Nat))
theorem zG.start {g cap W n0 B:Nat}{l:List Ins}{w:World}(h:Fw g cap W n0 B l w)(hl:0<l.length):zG g cap W n0 B l 0 [] w :=
 ⟨Nat.zero_le _,.inr (Py hl),by rw[VS];rfl,Nat.le_refl _,by simp,fun i x hx=>(by simp at hx),by rw[List.drop_zero,Nat.zero_mul];exact h.code,h.blk,h.now,fun y hy=>by omega⟩
theorem zG.on {g cap W n0 B:Nat}{l o:List Ins}{x:Nat}{w w':World}(h:zG g cap W n0 B l x o w)(hg:w'.heap[g]?=w.heap[g]?)(hW:w'.heap[W]?=w.heap[W]?):zG g cap W n0 B l x o w' :=
 ⟨h.le,h.at',h.len,h.few,h.pre,xG h.left hg,xG h.rest hg,h.blk.keep hg,h.Fx.keep hW,fun y hy hb=>(gZ hW _).trans (h.MX y hy hb)⟩
theorem Si {B:Nat}{w:World}{l:List Ins}{g x k:Nat}(h:aV B w (l.drop x) (some ⟨g,x * 3,none⟩)):aV B w (l.drop (x+k)) (some ⟨g,(x+k) * 3,none⟩):=fun i c hc=>by
 rw[List.getElem?_drop] at hc;obtain⟨h1,h2,h3,b,o,e,hb,c0,c1,c2⟩:=h (k+i) c (by rw[List.getElem?_drop,← Nat.add_assoc];exact hc);cases e;refine⟨h1,h2,h3,g,(x+k) * 3,rfl,hb,?_,?_,?_⟩
 ·rw[show (x+k) * 3+i * 3=x * 3+(k+i) * 3 by omega];exact c0
 ·rw[show (x+k) * 3+i * 3+1=x * 3+(k+i) * 3+1 by omega];exact c1
 ·rw[show (x+k) * 3+i * 3+2=x * 3+(k+i) * 3+2 by omega];exact c2
theorem MZ {l:List Ins}{x:Nat}(hx:x<l.length):x+(change l x).1≤l.length:=by
 rcases (yn l x).2.2 with e | ⟨_,h,_⟩
 ·rw[e];exact hx
 ·omega
theorem zG.next {g cap W n0 B:Nat}{l o:List Ins}{x:Nat}{w w':World}(h:zG g cap W n0 B l x o w)(hx:x<l.length)(hW:x<n0)
  (hleft:aV B w' (o++(change l x).2) (some ⟨g,0,none⟩)) (hrest:aV B w' (l.drop (x+(change l x).1)) (some ⟨g,(x+(change l x).1) * 3,none⟩)) (hblk:jk w' g 47 (cap * 3)) (M0:jk w' W 3 n0) (hc:∀ y,y≠x→w'.cell? ⟨W,y,none⟩=w.cell? ⟨W,y,none⟩) (hcx:w'.cell? ⟨W,x,none⟩=some (.int .i64 (o.length:Nat))):zG g cap W n0 B l (x+(change l x).1) (o++(change l x).2) w':=by
 have hb:uP (all l) x:=by
  rcases h.at' with e | e
  ·omega
  ·exact e
 have hlen:=(yn l x);have hn:=PG hb;refine⟨MZ hx,?_,by rw[List.length_append,h.len,hn],?_,?_,hleft,hrest,hblk,M0,fun y hy hby=>?_⟩
 ·by_cases e:x+(change l x).1<l.length
  ·exact .inr (PH hb e)
  ·have:=MZ hx
   exact .inl (by omega)
 ·have h1:=h.few
  have:(change l x).2.length≤(change l x).1:=by omega
  rw[List.length_append];omega
 ·have h1:=PE hb
  rw[← h.len] at h1;rw[List.length_append];conv=>lhs;rw[h.pre]
  rw[List.take_add];congr 1
  rw[h1,List.take_left]
 ·by_cases e:y=x
  ·subst e
   rw[hcx,h.len]
  ·rw[hc y e]
   refine h.MX y ?_ hby
   -- no piece begins within another one
   refine Classical.byContradiction fun hlt=>?_;exact inside hb hby (by omega) hy
theorem aal {w w':World}{B g cap W x:Nat}{l:List Ins}{v:Value}(h:Kc w w' g cap l x v)(hC:aV B w' (l.drop x) (some ⟨g,x * 3,none⟩))(hB:B≤w'.heap.size)(hW:W<w.heap.size)(hgW:g≠W) :
  ((change l x).2=[]∧v=.slice none 0 0)∨∃ c b off cp,(change l x).2=[c]∧v=.slice (some ⟨b,off,none⟩) 1 cp∧b≠W∧b<w'.heap.size∧w'.cell? ⟨b,off,none⟩=some (.int .i64 c.op)∧w'.cell? ⟨b,off+1,none⟩=some (.int .i64 c.a)∧w'.cell? ⟨b,off+2,none⟩=some (.int .i64 c.n):=by
 rcases h with (h | ⟨c,q,h1,h2,h3,h4⟩) | ⟨h1,c,h2,h3⟩
 ·exact .inl h
 ·refine .inr ⟨c,q,0,1,h1,h2,by omega,lt_of_block h4,?_,?_,?_⟩<;>simp[World.cell?,h4]
 ·obtain⟨hb,c0,c1,c2⟩:=Ar hC (i:=0) (x:=c) (by rw[List.getElem?_drop,Nat.add_zero];exact h2)
  rw[Nat.zero_mul,Nat.add_zero] at c0 c1 c2;exact .inr ⟨c,g,x * 3,_,by rw[h3],h1,hgW,by omega,c0,c1,c2⟩
abbrev Sg (P g M W:Nat):Nat→Prop:=fun k=>k=P∨k=g∨k=M∨k=W
theorem vI.Sj {lo hi:Nat}{w0:World}{P g n cap R M W n0:Nat}{fs:List (Nat × Array Value)}{jw:Nat→Bool}{w w':World}(h:vI lo hi w0 P g n cap R M W n0 fs jw w)(ha:Ap lo hi P g M W){S:Nat→Prop}(hc:kY S w w')(hS:∀ k,S k→k=g∨k=W):vI lo hi w0 P g n cap R M W n0 fs jw w':=by
 have hP:=ha.pg;have hPW:=ha.pw;have hM:=ha.gm;have M3:=ha.mw;have o1:=ha.oG;have o2:=ha.oW;refine⟨(hc.block P (lt_of_block h.ps) (fun e=>by rcases hS _ e with e | e;exact hP e;exact hPW e)).trans h.ps,h.Fq,fun j h1 h2=>(hc.block j (Nat.lt_of_lt_of_le h2 h.his) (fun e=>by rcases hS _ e with e | e<;>omega)).trans (h.held j h1 h2),h.Ca.keep (hc.block M h.Ca.lt (fun e=>by rcases hS _ e with e | e;exact hM e.symm;exact M3 e)),Nat.le_trans h.his hc.size⟩
theorem aan (lo hi:Nat)(w0:World)(P g cap R M W n0 B:Nat)(fs:List (Nat × Array Value))(l:List Ins)(Kg:Nat→Bool)(w:World)(hP:Hid (vI lo hi w0 P g l.length cap R M W n0 fs Kg w))(ha:Hid (Ap lo hi P g M W))(hC:Hid (Fw g cap W n0 B l w))(hB:B≤w.heap.size)(hgB:g<B)(hl0:0<l.length)(hl:l.length≤n0)(hn0:n0≤4000)(hcap:n0≤cap∧cap≤9223372036854775807)(hj:Hid (yI l)) :
  Calls Tryz.prog 22 #[.pointer (some ⟨P,0,none⟩)] w fun e w'=>e=.returned (.bool (decide ((over l).length<l.length)))∧vI lo hi w0 P g (over l).length cap R M W n0 fs (lg l) w'∧Fw g cap W n0 B (over l) w'∧kY (Sg P g M W) w w':=by
 obtain⟨n,hn⟩:∃ n,n=l.length:=⟨_,rfl⟩;have HN:=hide hn;rw[← hn] at hl hl0;have n1:(n:Int)≤4000:=by omega
 have n2:(n:Int)≤(cap:Int):=by omega
 have n3:(n:Int)≤(n0:Int):=by omega
 clear hn;go_enter Tryz.func22,Tryz.ntmps22
 go_wp2_with fail
 refine (Z7 lo hi w0 P g cap R M W n0 B fs l Kg w hP ha (hide hC.out.code) hB (by rw[← HN.out];omega) hj).mono ?_;rintro e w1 ⟨rfl,hp1,hg1⟩;have uE:=hide hp1;have Il:Hid (Fw g cap W n0 B l w1):=⟨R5 hC.out.code hB hg1 ha.out.gm,hC.out.blk.keep (hg1.block g hC.out.blk.lt (by intro e;cases e;exact ha.out.gm rfl)),hC.out.now.keep (hg1.block W hC.out.now.lt (by intro e;cases e;exact ha.out.mw rfl))⟩;have HW1:Hid (kY (Sg P g M W) w w1):=.gm hg1 (.inr (.inr (.inl rfl)));have HB1:Hid (B≤w1.heap.size):=Nat.le_trans hB hg1.size;rw[← HN.out] at uE;clear hp1 hg1;obtain⟨q0,q1,q2,q3⟩:=yL uE.out.ps;go_wp2
 clear q0 q1 q2 q3;go_loopw [3,4] (fun v i wr=>∃ (x:Nat) (o:List Ins),v=.slice (some ⟨g,0,none⟩) o.length cap∧i=.int .i64 x∧zG g cap W n0 B l x o wr∧kY (fun k=>k=g∨k=W) w1 wr) (fun _ i _=>n - (intOf i).toNat)
 case atStart=>exact⟨0,[],rfl,rfl,zG.start Il.out (by rw[← HN.out];exact hl0),kY.refl _ _⟩
 case round =>
  obtain⟨x,o,rfl,rfl,hO,M4⟩:=hrel;have HO:=hide hO;have Cb:=hide M4;have xe:=hide (uE.out.Sj ha.out M4 (fun _ h=>h));have hxn:x≤n:=by rw[HN.out];exact hO.le
  have hox:o.length≤x:=hO.few;clear hO M4;obtain⟨q0,q1,q2,q3⟩:=yL xe.out.ps;by_cases hlt:x<n
  ·have x1:(x:Int)<(n:Int):=by omega
   have hxl:x<l.length:=by rw[← HN.out];exact hlt
   have Ej:=hide hxl;have hch:=Z0 lo hi w0 P g cap R M W n0 B x fs l wr (by rw[← HN.out];exact xe) (hide HO.out.rest) (Nat.le_trans HB1.out Cb.out.size) (by rw[← HN.out];omega) hxl ⟨by rw[← HN.out];omega,hcap.2⟩;obtain⟨gn,hgn⟩:∃ gn,gn=(change l x).1:=⟨_,rfl⟩;rw[← hgn] at hch;have Fs:=hide hch;have xS:=hide hgn;clear hch hxl hgn;go_wp2_with fail
   refine Fs.out.mono ?_;rintro e w2 ⟨v,m,c,rfl,hcx,hb2⟩;have Ij:=HO.out.Fx.lt;have hgl:=HO.out.blk.lt;have hsrc:=aal hcx (xG HO.out.rest (hb2.block g hgl)) (Nat.le_trans HB1.out (Nat.le_trans Cb.out.size hb2.size)) Ij ha.out.gw;obtain⟨W3,hW3⟩:∃ W3,W3=w2.alloc (.cells #[.int .i64 gn,.slice v m c] 87):=⟨_,rfl⟩;have hb3:Below wr.heap.size wr W3:=by rw[hW3];exact az hb2 (fG _ _)
   have hbx:W3.heap[w2.heap.size]?=some (.cells #[.int .i64 gn,.slice v m c] 87 (0,0)):=by rw[hW3];exact heap_alloc_new _ _
   have El:Below w2.heap.size w2 W3:=by rw[hW3];exact fG _ _
   have yU:=hide (HO.out.on (hb3.block g hgl) (hb3.block W Ij));have Sk:Hid (kY (fun k=>k=g∨k=W) w1 W3):=Cb.out.trans (.of hb3);have Ke:=hide (uE.out.Sj ha.out Sk.out (fun _ h=>h));have Im:=hide hbx;have HW3:=hide hW3.symm;have M5:¬ w2.heap.size=W:=by have:=hb2.size;omega
   have ad6:¬ W=w2.heap.size:=fun e=>M5 e.symm;have aap:¬ w2.heap.size=g:=by have:=hb2.size;omega
   have aaq:=hide El;have aar:=hide hsrc;clear hW3 hb3 hbx hcx hb2 El hsrc q0 q1 q2 q3 Fs;go_upto_region 6 with fail
   rw[HW3.out];clear HW3;obtain⟨q0,q1,q2,q3⟩:=yL Ke.out.ps;obtain⟨a0,a1,_,_⟩:=Au Im.out;have x2:(x:Int)<(n0:Int):=by omega
   have x0:(0:Int)≤(x:Int):=by omega
   obtain⟨y,hy⟩:=Option.isSome_iff_exists.1 (yU.out.Fx.cell (i:=x) (by omega)).1;have hyf:=(yU.out.Fx.cell (i:=x) (by omega)).2;have g1:(x:Int)+(gn:Int)≤4000:=by
    have:=MZ Ej.out;rw[← xS.out,← HN.out] at this;omega
   have hoc:o.length≤cap:=by omega
   obtain⟨ol,hol⟩:∃ ol,ol=o.length:=⟨_,rfl⟩;rw[← hol];have xh:=hide hol;have zu:Hid (∀ W4:World,W4=W3.setCell ⟨W,x,none⟩ (.int .i64 (ol:Nat))→jk W4 g 47 (cap * 3)∧jk W4 W 3 n0∧aV B W4 o (some ⟨g,0,none⟩)∧aV B W4 (l.drop x) (some ⟨g,x * 3,none⟩)∧(∀ y,y≠x→W4.cell? ⟨W,y,none⟩=W3.cell? ⟨W,y,none⟩)∧W4.cell? ⟨W,x,none⟩=some (.int .i64 (ol:Nat))∧kY (fun k=>k=g∨k=W) w1 W4):=fun W4 e=>by
    subst e;have M6:(W3.setCell ⟨W,x,none⟩ (.int .i64 (ol:Nat))).heap[g]?=W3.heap[g]?:=Below.heap_setCell _ ⟨W,x,none⟩ _ _ ha.out.gw;exact⟨yU.out.blk.keep M6,yU.out.Fx.set _ _,xG yU.out.left M6,xG yU.out.rest M6,fun y hy=>Ce (fun _=>hy),Kh hy,Sk.out.set _ (.inr rfl) _⟩
   clear hol;rcases aar.out with⟨hput,hv⟩ | ⟨c',b,off,cp,hput,hv,hbW,hbl,k0,k1,k2⟩
   ·cases hv
    have hrun:=aai (w:=W3.setCell ⟨W,x,none⟩ (.int .i64 (ol:Nat))) (g:=g) (n:=ol) (cap:=cap) (by rw[xh.out];exact hoc);have HE:Hid (zG g cap W n0 B l (x+gn) o (W3.setCell ⟨W,x,none⟩ (.int .i64 (ol:Nat)))):=by
     obtain⟨e1,e2,e3,e4,e5,e6,_⟩:=zu.out _ rfl;have:=yU.out.next (w':=W3.setCell ⟨W,x,none⟩ (.int .i64 (ol:Nat))) Ej.out (by omega) (by rw[hput,List.append_nil];exact e3) (Si e4) e1 e2 e5 (by rw[e6,xh.out]);rw[hput,List.append_nil,← xS.out] at this;exact this
    have HF:=hide (zu.out _ rfl).2.2.2.2.2.2;have hg0:0<gn:=by rw[xS.out];exact (yn l x).1
    have Kl:=hide hrun;clear hput hoc hrun;go_wp2_with (at_builtin;refine wpList_append_run rfl _ _ 38 rfl _ _ _ _ rfl rfl Kl.out ?_)
    go_roundw
    case rel=>exact⟨x+gn,o,by rw[xh.out],by go_num,HE.out,HF.out⟩
    case measure=>simp[intOf];omega
   ·cases hv
    obtain⟨W4,rP⟩:∃ W4,W4=W3.setCell ⟨W,x,none⟩ (.int .i64 (ol:Nat)):=⟨_,rfl⟩;obtain⟨e1,e2,e3,e4,e5,e6,e7⟩:=zu.out W4 rP;have kk:∀ off,W4.cell? ⟨b,off,none⟩=w2.cell? ⟨b,off,none⟩:=fun off=>by
     rw[rP,Ce (fun e=>absurd e hbW)];exact gZ (aaq.out.block b hbl) off
    have hgn1:=(yn l x).2.2;have hrun:=aah (w:=W4) (g:=g) (n:=ol) (cap:=cap) (b:=b) (off:=off) (cp:=c) (c:=c') e1 (by have:=xh.out;omega) ((kk _).trans k0) ((kk _).trans k1) ((kk _).trans k2);have Sl:o.length * 3+(tQ c').length≤(x+gn) * 3:=by
     have h0:0<gn:=by rw[xS.out];exact (yn l x).1
     show o.length * 3+3≤(x+gn) * 3
     omega
    have HE:Hid (zG g cap W n0 B l (x+gn) (o++[c']) (W4.setCells g (ol * 3) (tQ c'))):=by
     have aas:=Sb (MV hC.out.code) Ej.out (d:=c') (by rw[hput];exact List.mem_singleton.2 rfl);have h1:=aaf (c:=c') e3 e1 (by omega) hgB aas;have h2:aV B (W4.setCells g (o.length * 3) (tQ c')) (l.drop (x+(change l x).1)) (some ⟨g,(x+(change l x).1) * 3,none⟩):=aag (Si e4) (by rw[← xS.out];exact Sl);have h3:∀ y,(W4.setCells g (o.length * 3) (tQ c')).cell? ⟨W,y,none⟩=W4.cell? ⟨W,y,none⟩:=fun y=>gZ (Kj g (fun e=>ha.out.gw e.symm) _ _ _) y;have:=yU.out.next (w':=W4.setCells g (o.length * 3) (tQ c')) Ej.out (by omega) (by rw[hput];exact h1) h2 (MW _ _ e1) (MW _ _ e2) (fun y hy=>(h3 y).trans (e5 y hy)) (by rw[h3,e6,xh.out]);rw[hput,← xS.out] at this;rw[xh.out];exact this
    have HF:Hid (kY (fun k=>k=g∨k=W) w1 (W4.setCells g (ol * 3) (tQ c'))):=e7.sets g (.inl rfl) _ _;have hg0:0<gn:=by rw[xS.out];exact (yn l x).1
    have Kl:=hide hrun;have xC:=hide rP.symm;have HL2:Hid (ol+1=(o++[c']).length):=by unfold Hid;rw[xh.out,List.length_append];rfl
    have a1':W4.cell? ⟨w2.heap.size,1,none⟩=some (.slice (some ⟨b,off,none⟩) 1 c):=by
     rw[rP,Ce (fun e=>absurd e M5)];exact a1
    have a0':W4.cell? ⟨w2.heap.size,0,none⟩=some (.int .i64 gn):=by
     rw[rP,Ce (fun e=>absurd e M5)];exact a0
    have aat:(W4.setCells g (ol * 3) (tQ c')).cell? ⟨w2.heap.size,0,none⟩=some (.int .i64 gn):=(gZ (Kj g aap _ _ _) 0).trans a0';obtain⟨W5,kX⟩:∃ W5,W5=W4.setCells g (ol * 3) (tQ c'):=⟨_,rfl⟩;rw[← kX] at HE HF Kl aat;clear hput hoc hrun e1 e2 e3 e4 e5 e6 e7 kk hgn1 Sl rP kX k0 k1 k2;go_upto_region 7 with fail
    rw[xC.out];clear xC a0 a1;go_wp2_with (at_builtin;refine wpList_append_run rfl _ _ 38 rfl _ _ _ _ rfl rfl Kl.out ?_)
    go_roundw
    case rel=>exact⟨x+gn,o++[c'],by rw[HL2.out],by go_num,HE.out,HF.out⟩
    case measure=>simp[intOf];omega
  ·obtain rfl:x=n:=by omega
   have hxl:x=l.length:=HN.out;have hlo:o.length=(out (all l)).length:=by rw[HO.out.len,hxl,aak]
   have M7:o=out (all l):=by
    have:=HO.out.pre;rw[hlo,List.take_length] at this;exact this
   obtain⟨ol,hol⟩:∃ ol,ol=o.length:=⟨_,rfl⟩;rw[← hol];obtain⟨W6,xD⟩:∃ W6,W6=wr.setCell ⟨P,0,none⟩ (.slice (some ⟨g,0,none⟩) ol cap):=⟨_,rfl⟩;have M8:W6.heap[P]?=some (BP g ol cap R M W n0):=by
    rw[xD];have:=xe.out.ps;simp only[World.setCell,Array.getElem?_modify,if_true,this,Option.map_some];rfl
   have Cg:∀ k,k≠P→W6.heap[k]?=wr.heap[k]?:=fun k hk=>by rw[xD];exact Below.heap_setCell _ ⟨P,0,none⟩ _ _ hk
   have iD:W6.heap.size=wr.heap.size:=by rw[xD];simp
   have Sm:aV B W6 o (some ⟨g,0,none⟩):=xG HO.out.left (Cg g (fun e=>ha.out.pg e.symm));have hb6:jk W6 g 47 (cap * 3):=HO.out.blk.keep (Cg g (fun e=>ha.out.pg e.symm));have Sn:∀ c ∈ o,jmp c=true→0≤c.a∧c.a<n0∧now (all l) c.a.toNat≤4000∧W6.cell? ⟨W,c.a.toNat,none⟩=some (.int .i64 (now (all l) c.a.toNat:Nat)):=fun c hc hjc=>by
    rw[M7] at hc;obtain⟨h1,h2⟩:=MO hj.out hc hjc;have h3:=PD h2;have h4:=Jt h2;rw[← hlo] at h4;refine⟨h1,by omega,by omega,?_⟩;rw[gZ (Cg W (fun e=>ha.out.pw e.symm))];exact HO.out.MX _ (by omega) h2
   have hmv:=Z8 P g cap R M W n0 B (all l) o W6 (hide (by rw[← hol];exact M8)) ha.out.pg (fun e=>ha.out.gw e.symm) (hide hb6) (by omega) (hide Sm) (by omega) (hide Sn);have hov:o.map (moved (all l))=over l:=by rw[M7];rfl
   have hlv:(over l).length=ol:=by rw[DU,← hlo,hol]
   rw[hov] at hmv;have Gm:=hide hmv;have Ee:=hide xD.symm;have Sq:=hide M8;have M9:=hide Cg;have Km:=hide iD;have Sr:=hide hlv;have xh:=hide hol;have pf:wr.frozen? ⟨P,0,none⟩=false:=by simp[World.frozen?,xe.out.ps]
   clear hmv hov Sn hb6 Sm iD Cg M8 xD M7 hlo hlv hol hlt hxl;go_wp2_with fail
   rw[Ee.out];refine Gm.out.mono ?_;rintro e w7 ⟨rfl,Su,Sv,AO⟩;have Lv:Hid (vI lo hi w0 P g (over l).length cap R M W n0 fs (lg l) w7):=by
    unfold Hid;rw[Sr.out];refine⟨(AO.block P (lt_of_block Sq.out) (by intro e;cases e;exact ha.out.pg rfl)).trans Sq.out,xe.out.Fq,fun j h1 h2=>?_,?_,?_⟩
    ·have h3:j<W6.heap.size:=by rw[Km.out];exact Nat.lt_of_lt_of_le h2 xe.out.his
     have h4:=ha.out.oG;have h5:=ha.out.oP;rw[AO.block j h3 (by intro e;cases e;omega),M9.out j (by omega)];exact xe.out.held j h1 h2
    ·have h3:M<W6.heap.size:=by rw[Km.out];exact xe.out.Ca.lt
     exact xe.out.Ca.keep ((AO.block M h3 (by intro e;cases e;exact ha.out.gm rfl)).trans (M9.out M (fun e=>ha.out.pm e.symm)))
    ·have h3:=xe.out.his
     have h4:=AO.size;rw[Km.out] at h4;omega
   have HCE:Hid (Fw g cap W n0 B (over l) w7):=by
    have h3:W<W6.heap.size:=by rw[Km.out];exact HO.out.Fx.lt
    exact⟨Su,Sv,HO.out.Fx.keep ((AO.block W h3 (by intro e;cases e;exact ha.out.gw rfl)).trans (M9.out W (fun e=>ha.out.pw e.symm)))⟩
   have JE:Hid (kY (Sg P g M W) w w7):=by
    have h1:kY (Sg P g M W) w1 wr:=Cb.out.mono (fun k h=>by rcases h with rfl | rfl;exact .inr (.inl rfl);exact .inr (.inr (.inr rfl)));have h2:kY (Sg P g M W) wr W6:=by rw[← Ee.out];exact (kY.refl _ wr).set _ (.inl rfl) _
    exact ((HW1.out.trans h1).trans h2).trans (.gm AO (.inr (.inl rfl)))
   have sN:Hid (decide ((over l).length<l.length)=decide (ol<x)):=by
    unfold Hid;rw[Sr.out,← HN.out]
   clear Su Sv AO;go_wp2
   go_ret
   exact⟨by rw[sN.out];rfl,Lv.out,HCE.out,JE.out⟩
end Go.Proofs.YtbdpdjcdhclbfaaGreat.Ow
