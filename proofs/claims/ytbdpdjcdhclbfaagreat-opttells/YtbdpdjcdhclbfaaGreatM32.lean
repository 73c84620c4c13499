/- Which locals have something,as a row of truths;appends of the document's Code. -/
import Derived.Test.YtbdpdjcdhclbfaaGreatM31
import Derived.Laws.OwnMore
import Derived.Deep.DeepCutAuto
import Derived.LoopN
set_option maxHeartbeats 4000000
namespace Go.Proofs.YtbdpdjcdhclbfaaGreat
open Go.RowKit
namespace Vf
def bl (n:Nat)(f:Fl):List Bool:=(List.range n).map f.has
def tT (n:Nat)(f:Fl):Prop:=∀ j,n≤j→j<256→f.has j=false
theorem iB (n:Nat)(f:Fl):(bl n f).length=n:=by simp[bl]
theorem A8 {n x:Nat}(f:Fl)(h:x<n):(bl n f)[x]?=some (f.has x):=by simp[bl,h]
theorem ace (f:Fl){a k:Nat}(hk:k<4):(f.fill a).word k=if a / 64=k then f.word k ||| BitVec.twoPow 64 (a % 64) else f.word k:=by
 rcases (show k=0∨k=1∨k=2∨k=3 by omega) with rfl | rfl | rfl | rfl<;>simp[Fl.fill,Fl.word]
theorem Ue (f:Fl){a j:Nat}(hj:j<256):(f.fill a).has j=(f.has j || decide (j=a)):=by
 unfold Fl.has;rw[ace f (by omega)];by_cases h:a / 64=j / 64
 ·rw[if_pos h,BitVec.getLsbD_or,BitVec.getLsbD_twoPow]
  congr 1
  have h1:a % 64<64:=by omega
  by_cases e:j=a
  ·subst e
   simp[h1]
  ·have:¬ a % 64=j % 64:=by omega
   simp[e,this]
 ·rw[if_neg h]
  have:¬ j=a:=fun e=>h (by rw[e]);simp[this]
theorem Uf {n a:Nat}(f:Fl)(hn:n≤200):bl n (f.fill a)=(bl n f).set a true:=by
 refine List.ext_getElem? (fun j=>?_);by_cases hj:j<n
 ·rw[A8 _ hj,Ue f (by omega),List.getElem?_set]
  by_cases e:a=j
  ·subst e
   rw[if_pos rfl,if_pos (by rw[iB];exact hj)];simp
  ·rw[if_neg e,A8 _ hj]
   have:¬ j=a:=fun e2=>e e2.symm;simp[this]
 ·rw[List.getElem?_eq_none (by rw[iB];omega),List.getElem?_eq_none (by simp[iB];omega)]
theorem tT.fill {n a:Nat}{f:Fl}(h:tT n f)(ha:a<n):tT n (f.fill a):=fun j h1 h2=>by
 rw[Ue f h2,h j h1 h2];have:¬ j=a:=by omega
 simp[this]
theorem Ug (j:Nat):Fl.none.has j=false:=by
 unfold Fl.has Fl.none Fl.word;split
 ·simp
 ·split
  ·simp
  ·split<;>simp
theorem tT.none (n:Nat):tT n Fl.none:=fun j _ _=>Ug j
theorem tT.first {n:Nat}:∀ {p:Nat},p≤n→tT n (Fl.first p)
 | 0,_=>tT.none n
 | p+1,h=>(tT.first (p:=p) (by omega)).fill (by omega)
theorem tT.both {n:Nat}{f g:Fl}(h:tT n f):tT n (f.both g):=fun j h1 h2=>by rw[has_both,h j h1 h2];rfl
theorem Uh (n:Nat):bl n Fl.none=List.replicate n false:=by
 refine List.ext_getElem? (fun j=>?_);by_cases hj:j<n
 ·rw[A8 _ hj,Ug,List.getElem?_replicate,if_pos hj]
 ·rw[List.getElem?_eq_none (by rw[iB];omega),List.getElem?_eq_none (by simp;omega)]
def bm (n:Nat)(t k:Fl)(x:Nat):List Bool:=(List.range n).map (fun y=>t.has y && (decide (x≤y) || k.has y))
def less (t k:Fl):Nat→Bool
 | 0=>false
 | x+1=>less t k x || (t.has x && !k.has x)
theorem GD (n:Nat)(t k:Fl)(x:Nat):(bm n t k x).length=n:=by simp[bm]
theorem GG {n y:Nat}(t k:Fl)(x:Nat)(h:y<n):(bm n t k x)[y]?=some (t.has y && (decide (x≤y) || k.has y)):=by simp[bm,h]
theorem acf (n:Nat)(t k:Fl):bm n t k 0=bl n t:=by simp[bm,bl]
theorem acg (n:Nat)(t k:Fl):bm n t k n=bl n (t.both k):=by
 refine List.ext_getElem? (fun j=>?_);by_cases hj:j<n
 ·rw[GG _ _ _ hj,A8 _ hj,has_both]
  have:decide (n≤j)=false:=by simp;omega
  rw[this];rfl
 ·rw[List.getElem?_eq_none (by rw[GD];omega),List.getElem?_eq_none (by rw[iB];omega)]
theorem ach {n x:Nat}{t k:Fl}(h:(t.has x && !k.has x)=true):bm n t k (x+1)=(bm n t k x).set x false:=by
 refine List.ext_getElem? (fun j=>?_);by_cases hj:j<n
 ·rw[GG _ _ _ hj,List.getElem?_set]
  by_cases e:x=j
  ·subst e
   rw[if_pos rfl,if_pos (by rw[GD];exact hj)];simp at h;simp[h]
  ·rw[if_neg e,GG _ _ _ hj]
   have:decide (x+1≤j)=decide (x≤j):=by
    rw[Bool.eq_iff_iff,decide_eq_true_eq,decide_eq_true_eq];omega
   rw[this]
 ·rw[List.getElem?_eq_none (by rw[GD];omega),List.getElem?_eq_none (by simp[GD];omega)]
theorem aci {n x:Nat}{t k:Fl}(h:(t.has x && !k.has x)=false):bm n t k (x+1)=bm n t k x:=by
 refine List.ext_getElem? (fun j=>?_);by_cases hj:j<n
 ·rw[GG _ _ _ hj,GG _ _ _ hj]
  by_cases e:x=j
  ·subst e
   have:decide (x+1≤x)=false:=by simp
   rw[this];cases h1:t.has x
   ·simp
   ·rw[h1] at h
    simp at h;simp[h]
  ·have:decide (x+1≤j)=decide (x≤j):=by
    rw[Bool.eq_iff_iff,decide_eq_true_eq,decide_eq_true_eq];omega
   rw[this]
 ·rw[List.getElem?_eq_none (by rw[GD];omega),List.getElem?_eq_none (by rw[GD];omega)]
theorem Oj {t k:Fl}:∀ {x:Nat},less t k x=false ↔ ∀ y,y<x→(t.has y && !k.has y)=false
 | 0=>⟨fun _ y hy=>by omega,fun _=>rfl⟩
 | x+1=>by
  unfold less;rw[Bool.or_eq_false_iff,Oj];constructor
  ·rintro⟨h1,h2⟩ y hy
   by_cases e:y=x
   ·subst e;exact h2
   ·exact h1 y (by omega)
  ·intro h
   exact⟨fun y hy=>h y (by omega),h x (by omega)⟩
theorem acj {n:Nat}{t k:Fl}(h:tT n t):less t k n=!(Fl.eq (t.both k) t):=by
 cases hl:less t k n with
 | false =>
  have h1:=Oj.1 hl;have:t.both k=t:=OT fun j hj=>by
   rw[has_both];by_cases hjn:j<n
   ·have:=h1 j hjn
    cases h2:t.has j
    ·rfl
    ·rw[h2] at this
     simp at this;simp[this]
   ·rw[h j (by omega) hj]
    rfl
  rw[Fl.eq_iff.2 this];rfl
 | true =>
  cases he:Fl.eq (t.both k) t with
  | false=>rfl
  | true =>
   exfalso;have e:=Fl.eq_iff.1 he;have:less t k n=false:=Oj.2 fun y _=>by
    have h2:=has_both t k y;rw[e] at h2;cases h3:t.has y
    ·rfl
    ·rw[h3] at h2
     simp at h2;simp[h2]
   rw[this] at hl;cases hl
def cm (n:Nat)(come:Nat→Option Kn):Nat→Option (List Int × List Bool):=fun i=>(come i).map (fun k=>(k.st,bl n k.fl))
theorem sO {n i:Nat}{come:Nat→Option Kn}{k:Kn}(h:come i=some k):cm n come i=some (k.st,bl n k.fl):=by unfold cm;rw[h];rfl
theorem Ui {n i:Nat}{come:Nat→Option Kn}(h:come i=none):cm n come i=none:=by unfold cm;rw[h];rfl
theorem KQ (n:Nat)(s:S)(i:Nat)(k:Kn):cm n (s.note i k).come=upd (cm n s.come) i (k.st,bl n k.fl):=by
 funext j
 unfold cm upd S.note;by_cases e:j=i
 ·simp[e]
 ·simp[e]
def Ex (n:Nat)(s:S):Prop:=∀ i k,s.come i=some k→tT n k.fl
theorem Ex.note {n i:Nat}{s:S}{k:Kn}(h:Ex n s)(hk:tT n k.fl):Ex n (s.note i k):=fun j k' hj=>by
 unfold S.note at hj;simp only at hj;split at hj
 ·cases hj;exact hk
 ·exact h j k' hj
end Vf
section
variable {P:Program} {w:World}
theorem ack (base:Nat)(t ty e:TypeId)(i:TypeInfo)(size:Nat)(ht:P.underlying t=some (.slice e))(hi:P.info? e=some i)(v:Value)(n:Nat)(xs:List Value)(hown:w.ownsRow base e size v n xs)(c:Nat) :
  (Builtin.append_ #[t,t] ty #[v,.slice none 0 c]).run P w=.ok v w:=by
 rcases hown.2 with⟨rfl,rfl⟩ | ⟨g,cap,cur,rfl,_,_,hnc,_⟩
 ·simp[Builtin.append_,run_underlying ht,sizeOf,typeInfo,hi,Builtin.lenOf,Builtin.firstCells]
 ·simp[Builtin.append_,run_underlying ht,sizeOf,typeInfo,hi,Builtin.lenOf,Builtin.firstCells,hnc,storeCells]
end
theorem yc {w:World}{ops:Array Oper}{rest:List Oper}{o:Oper}{a:Act}{Q:Exit→Act→World→Prop}(hgd:o.guard=none)(s x:Operand)
  (ho:o.op=.call { callee:=.builtin .append,args:=#[s,x],argTypes:=#[92,92] })
  (N C:Nat) (hs:a.eval s=.slice (some ⟨N,0,none⟩) 0 0) (hN:w.heap[N]?=some (.cells #[] 4 (0,0))) (v:Value) (l:List Bool) (hx:a.eval x=v) (h:BR w C v l) (hl:l.length≤200)
  (hK:∀ v' w',BR w' N v' l→w.grownBy w' (some N)→wpList Tryz.prog ops Q rest (a.put o.dst v') w'):wpList Tryz.prog ops Q (o :: rest) a w:=by
 obtain⟨i0,hi,hz0,hz1,hz2⟩:=info_parts Tryz.Oh;have hown:w.ownsRow N 4 1 (.slice (some ⟨N,0,none⟩) 0 0) 0 []:=⟨rfl,.inr ⟨N,0,#[],rfl,Nat.le_refl _,hN,Nat.le_refl _,Nat.zero_le _,rfl,rfl⟩⟩;have hlt:=lt_of_block hN;have hbl:(bools l).length=l.length * 1:=by simp
 rcases h.2 with⟨h1,h2⟩ | ⟨g,cap,cur,h1,h2,h3,h4,h5,h6,h7⟩
 ·rw[h1] at hx
  refine wpList_plain hgd fun K hK2=>?_;have hrun:=ack (P:=Tryz.prog) (w:=w) N 92 o.type 4 i0 1 Tryz.underlying92 hi (.slice (some ⟨N,0,none⟩) 0 0) 0 [] hown 0;unfold Oper.wp;simp[execOp,ho,resolve,invoke,builtin,hs,hx,hrun,Result.andThen];have e:l=[]:=List.eq_nil_of_length_eq_zero h2;subst e;exact hK2 _ _ (hK _ w hown (World.grownBy.refl _ _))
 ·rw[h1] at hx
  refine wpList_append_own w hgd s x 92 ho N 4 i0 _ 1 1 Tryz.underlying92 hi hz0 hz1 hz2 rfl (by decide) _ 0 [] hs hown ⟨g,0,none⟩ l.length cap (bools l) hx hbl (fun j u hu=>?_) (fun u hu=>?_) (by unfold maxLen;omega) (by omega) (by omega) (fun v' w' h8 h9 _=>?_)
  ·rw[JQ,Nat.zero_add]
   have e:=hu;rw[← h7,List.getElem?_take] at e;split at e
   ·simp[World.cell?,h3]
    simpa using e
   ·cases e
  ·simp at hu
   rcases hu with⟨_,rfl⟩ | ⟨_,rfl⟩<;>rfl
  ·have e:0+l.length=l.length:=Nat.zero_add _
   rw[e,List.nil_append] at h8;exact hK v' w' h8 h9
theorem Uj {w:World}{C:Nat}{e:TypeId}{size n:Nat}{v:Value}{xs:List Value}(h:w.ownsRow C e size v n xs):∀ j,v.ownBlock=some j→C≤j:=by
 intro j hj;rcases h.2 with⟨rfl,_⟩ | ⟨g,cap,cur,rfl,h2,_⟩
 ·cases hj
 ·cases hj
  exact h2
theorem acm (w:World)(B:Nat)(ty:TypeId)(v:Value)(ws:List Nat)(x:Nat)(h:QR w B v ws)(a:Addr)(hnews:∀ j u,[Value.int .i64 (x:Int)][j]?=some u→w.cell? (a.add j)=some u)(hn:ws.length≤100000000)(hB:B≤w.heap.size) :
  ∃ v' w',(Builtin.append_ #[37,37] ty #[v,.slice (some a) 1 1]).run Tryz.prog w=.ok v' w'∧QR w' B v' (ws++[x])∧w.grownBy w' v.ownBlock∧∀ j,v'.ownBlock=some j→v.ownBlock=some j∨w.heap.size≤j:=by
 obtain⟨i0,hi,hz0,hz1,hz2⟩:=info_parts Tryz.info3;rcases h with⟨rfl,rfl⟩ | ⟨g,off,cap,cs,rfl,hBg,hh,h1,h2,h3⟩
 ·obtain⟨v',w',hr,ho,hg,_⟩:=run_append_own (P:=Tryz.prog) w w.heap.size 37 ty 3 i0 _ 1 8 Tryz.underlying37 hi hz0 hz1 hz2 rfl (by decide) (.slice none 0 0) 0 [] (World.ownsRow_nil _ _ _ _) a 1 1 [.int .i64 (x:Int)] rfl hnews (JR x) (by unfold maxLen;omega) (by omega) (Nat.le_refl _)
  exact⟨v',w',hr,JO (ws:=[x]) (JP ho hB),hg,fun j hj=>.inr (Uj ho j hj)⟩
 ·by_cases hroom:ws.length+1≤cap
  ·have hlt:off+ws.length<cs.length:=by omega
   have hr:=run_append_room_cells (P:=Tryz.prog) w 37 ty 3 i0 Tryz.underlying37 hi g off ws.length cap a 1 1 [.int .i64 (x:Int)] (by rw[hz1];rfl) hnews (JR x) hroom
    (fun j hj=>by
     have hj0:j=0:=by simpa using hj
     subst hj0;rw[hz1];simp[World.cell?,hh,hlt])
    (fun j hj=>by simp[World.frozen?,hh])
   rw[hz1,Nat.mul_one] at hr;refine⟨_,_,hr,.inr ⟨g,off,cap,cs.set (off+ws.length) (.int .i64 (x:Int)),by simp,hBg,Ho hh _ _,by simpa using h1,by simpa using hroom,fun i y hy=>?_⟩,⟨rfl,rfl,rfl,by simp[World.setCells,World.setCell],fun k hk hne=>?_⟩,fun j hj=>.inl hj⟩
   ·by_cases hi':i<ws.length
    ·rw[List.getElem?_append_left hi'] at hy
     rw[List.getElem?_set_ne (by omega)];exact h3 i y hy
    ·have hi2:i=ws.length:=by
      have:=(List.getElem?_eq_some_iff.1 hy).1;simp at this;omega
     subst hi2;simp at hy;subst hy;rw[List.getElem?_set_self hlt]
   ·exact Below.heap_setCell w ⟨g,off+ws.length,none⟩ _ k (fun e=>hne (by rw[e];rfl))
  ·obtain⟨v',w',hr,ho,hg⟩:=run_append_arg_grows (P:=Tryz.prog) w 37 ty 3 i0 _ 1 8 Tryz.underlying37 hi hz0 hz1 hz2 rfl (by decide) ⟨g,off,none⟩ ws.length cap (JN ws) (by simp) (fun j u hu=>by
     rw[JQ];rw[List.getElem?_map] at hu;obtain⟨y,hy,rfl⟩:=Option.map_eq_some_iff.1 hu;simp[World.cell?,hh,h3 j y hy]) a 1 1 [.int .i64 (x:Int)] rfl hnews (by omega) (by unfold maxLen;omega) (by omega)
   exact⟨v',w',hr,JO (ws:=ws++[x]) (JP (by simpa using ho) hB),QJ hg,fun j hj=>.inr (Uj ho j hj)⟩
theorem Uk {w:World}{ops:Array Oper}{rest:List Oper}{o:Oper}{a:Act}{Q:Exit→Act→World→Prop}(hgd:o.guard=none)(s x:Operand)
  (ho:o.op=.call { callee:=.builtin .append,args:=#[s,x],argTypes:=#[37,37] })
  (B:Nat) (v:Value) (ws:List Nat) (y:Nat) (hs:a.eval s=v) (h:QR w B v ws) (ad:Addr) (hx:a.eval x=.slice (some ad) 1 1) (hnews:∀ j u,[Value.int .i64 (y:Int)][j]?=some u→w.cell? (ad.add j)=some u)
  (hn:ws.length≤100000000) (hB:B≤w.heap.size)
  (hK:∀ v' w',QR w' B v' (ws++[y])→w.grownBy w' v.ownBlock→(∀ j,v'.ownBlock=some j→v.ownBlock=some j∨w.heap.size≤j)→wpList Tryz.prog ops Q rest (a.put o.dst v') w'):wpList Tryz.prog ops Q (o :: rest) a w:=by
 refine wpList_plain hgd fun K hK2=>?_;obtain⟨v',w',hr,h2,h3,h4⟩:=acm w B o.type v ws y h ad hnews hn hB;unfold Oper.wp;simp[execOp,ho,resolve,invoke,builtin,hs,hx,hr,Result.andThen];exact hK2 _ _ (hK v' w' h2 h3 h4)
abbrev kO (k:Nat):Obj:=.cells #[.int .i64 (k:Int)] 3 (0,0)
structure uN (c:FC) (kk:Nat) (w W:World):Prop where
 grown:w.grownBy W none
 mb:W.heap[w.heap.size]?=some (uM c.m c.ab c.au c.cb c.cu)
 kb:W.heap[w.heap.size+1]?=some (kO kk)
 wz:W.heap[w.heap.size+1+1]?=some aU
 ub:W.heap[w.heap.size+1+1+1]?=some (gP c.u c.al c.ac c.cl c.cc)
theorem uN.keep {c:FC}{kk:Nat}{w W W':World}{r:Option Nat}(h:uN c kk w W)(hg:W.grownBy W' r)(hr:∀ N,r=some N→w.heap.size+1+1+1+1≤N):uN c kk w W':=by
 have k:∀ b,b<w.heap.size+1+1+1+1→W'.heap[b]?=W.heap[b]?:=fun b hb=>hg.block b (by have:=lt_of_block h.ub;omega) (fun e=>by have:=hr b e.symm;omega);exact⟨h.grown.andThen hg (fun j e=>.inl (by have:=hr j e;omega)),(k _ (by omega)).trans h.mb,(k _ (by omega)).trans h.kb,(k _ (by omega)).trans h.wz,(k _ (by omega)).trans h.ub⟩
theorem uN.next {c:FC}{kk:Nat}{w W W':World}(h:uN c kk w W)(hg:W.grownBy W' none):uN c kk w W':=h.keep hg (fun _ e=>by cases e)
theorem uN.new {c:FC}{kk:Nat}{w W:World}(h:uN c kk w W)(o:Obj):uN c kk w (W.alloc o):=h.next (ai (World.grownBy.refl _ _) _)
theorem uN.set {c:FC}{kk N:Nat}{w W:World}(h:uN c kk w W)(hN:w.heap.size+1+1+1+1≤N)(o:Nat)(v:Value):uN c kk w (W.setCell ⟨N,o,none⟩ v):=h.keep (wI (ui W N) o v) (fun _ e=>by cases e;exact hN)
theorem uN.lt {c:FC}{kk:Nat}{w W:World}(h:uN c kk w W):w.heap.size+1+1+1<W.heap.size:=lt_of_block h.ub
theorem aI {w:World}{N:Nat}{x:Value}{t:TypeId}(h:w.heap[N]?=some (.cells #[x] t (0,0))):w.cell? ⟨N,0,none⟩=some x:=by
 simp[World.cell?,h]
theorem GH {w:World}{C g n cap x:Nat}{l:List Bool}{b:Bool}(h:BR w C (.slice (some ⟨g,0,none⟩) n cap) l)(hx:l[x]?=some b):w.cell? ⟨g,x,none⟩=some (.bool b)∧w.frozen? ⟨g,x,none⟩=false∧C≤g∧g<w.heap.size:=by
 obtain⟨g',cap',e,h1,h2,h3,h4⟩:=Gz h hx;cases e;exact⟨h3,h4,h1,h2⟩
theorem Ol {w:World}{C g n cap x:Nat}{l:List Bool}(h:BR w C (.slice (some ⟨g,0,none⟩) n cap) l)(hn:l.length=n)(b:Bool):BR (w.setCell ⟨g,x,none⟩ (.bool b)) C (.slice (some ⟨g,0,none⟩) n cap) (l.set x b):=by
 subst hn;exact Ud h b
abbrev Om (len:Nat):Obj:=.cells (madeCells (Value.agg #[.bool false,.string ⟨#[]⟩,.slice none 0 0]).cells (len * 3)) 94 (0,0)
abbrev Ja (n:Nat):Obj:=.cells (madeCells (Value.bool false).cells (n * 1)) 4 (0,0)
theorem acn (len i:Nat)(hi:i<len):(madeCells (Value.agg #[.bool false,.string ⟨#[]⟩,.slice none 0 0]).cells (len * 3)).toList[i * 3]?=some (.bool false):=by
 have e:(i * 3) % 3=0:=by omega
 unfold madeCells;simp only[Array.toList_map,Array.toList_range,List.getElem?_map];rw[List.getElem?_range (by omega)];simp[Value.cells,e]
theorem jv.start {B n len SB:Nat}{w:World}(h:w.heap[SB]?=some (Om len)):jv B n len SB (fun _=>none) none w :=
 ⟨(madeCells (Value.agg #[.bool false,.string ⟨#[]⟩,.slice none 0 0]).cells (len * 3)).toList,fun _=>.slice none 0 0,by simpa using h,by simp[size_madeCells],fun i hi=>acn len i hi,fun _ _ _ _ _ hn=>absurd rfl hn,fun _ _ _ hn=>absurd rfl hn⟩
theorem Ul {n N:Nat}{w:World}(h:w.heap[N]?=some (Ja n))(hn:n≤200):BR w N (.slice (some ⟨N,0,none⟩) n n) (Vf.bl n Vf.Fl.none):=by
 rw[Vf.Uh];refine⟨by simp,.inr ⟨N,n,_,by simp,Nat.le_refl _,h,by simp,by unfold maxLen;omega,size_madeCells _ _,?_⟩⟩;have e:(madeCells (Value.bool false).cells (n * 1)).toList=List.replicate (n * 1) (Value.bool false):=toList_madeCells_one _ _;rw[e];simp
structure wV (c:FC) (kk:Nat) (w:World) (s:Vf.S) (rv:Value) (W:World):Prop where
 cd:uN c kk w W
 se:jv (w.heap.size+1+1+1+1) c.u.locals.length c.u.code.length (w.heap.size+1+1+1+1) (Vf.cm c.u.locals.length s.come) none W
 q:QR W (w.heap.size+1+1+1+1) rv s.row
 inv:Inv c.m c.u s
 sQ:Vf.Ex c.u.locals.length s
def wo (c:FC)(kk:Nat)(w:World)(er num:Int)(gk:Nat)(rv:Value)(W:World):Prop :=
 ∃ s,wV c kk w s rv W∧Vf.mu c.u.code.length s<gk∧Vf.mu c.u.code.length s≤3000000∧(er,num)=((Vf.si c.m c.u gk s).1,((Vf.si c.m c.u gk s).2:Int))
def Cs:Code→List Code
 | .loop c=>[c]
 | .seq a b=>Cs a++Cs b
 | .block _ c=>Cs c
 | .scope c=>Cs c
 | .cond _ a b=>Cs a++Cs b
 | _=>[]
noncomputable def vU:Code:=(((Tryz.f24.body.map Cs).getD [])[1]?).getD .skip
noncomputable def zk:Code:=((Cs vU)[0]?).getD .skip
noncomputable def Oo:Code:=((Cs zk)[0]?).getD .skip
theorem aco (come:Nat→Option (List Int × List Bool))(i:Nat)(p q:List Int × List Bool):upd (upd come i p) i q=upd come i q:=by
 funext j
 unfold upd;by_cases h:j=i
 ·rw[if_pos h,if_pos h]
 ·rw[if_neg h,if_neg h,if_neg h]
structure L4 (Bq n len SB i C:Nat) (come:Nat→Option (List Int × List Bool)) (X:Option Nat) (st:List Int) (tf kf:Vf.Fl) (nv v:Value) (W0:World) (x:Nat) (lb:Bool) (W:World):Prop where
 le:x≤n
 se:jv Bq n len SB (upd come i (st,Vf.bm n tf kf x)) X W
 now:BR W C nv (Vf.bl n kf)
 lb:lb=Vf.less tf kf x
 grown:W0.grownBy W v.ownBlock
 cell:W.cell? ⟨SB,i * 3+2,none⟩=some v
 own:nv.ownBlock=X
theorem L4.no {Bq n len SB i C:Nat}{come:Nat→Option (List Int × List Bool)}{X:Option Nat}{st:List Int}{tf kf:Vf.Fl}{nv v:Value}{W0:World}{x:Nat}{lb:Bool}{W:World}(h:L4 Bq n len SB i C come X st tf kf nv v W0 x lb W)(hx:x<n)(hb:(tf.has x && !kf.has x)=false):L4 Bq n len SB i C come X st tf kf nv v W0 (x+1) lb W :=
 ⟨hx,by rw[Vf.aci hb];exact h.se,h.now,by rw[h.lb,Vf.less,hb,Bool.or_false],h.grown,h.cell,h.own⟩
theorem L4.yes {Bq n len SB i C g cap:Nat}{come:Nat→Option (List Int × List Bool)}{X:Option Nat}{st:List Int}{tf kf:Vf.Fl}{nv:Value}{W0:World}{x:Nat}{lb:Bool}{W:World}(h:L4 Bq n len SB i C come X st tf kf nv (.slice (some ⟨g,0,none⟩) n cap) W0 x lb W)(hi:i<len)(hx:x<n)(hb:(tf.has x && !kf.has x)=true)(hX:some g≠X):L4 Bq n len SB i C come X st tf kf nv (.slice (some ⟨g,0,none⟩) n cap) W0 (x+1) true (W.setCell ⟨g,x,none⟩ (.bool false)):=by
 obtain⟨cs,hS⟩:=h.se.blk;obtain⟨s,v',c0,c1,c2,_,hbr,hbl,hsep⟩:=h.se.yes hi (if_pos rfl);have hv:v'=_:=Option.some.inj (c2.symm.trans h.cell);subst hv;obtain⟨_,bs,hb'⟩:=A7 hbr (g:=g) rfl;have Oi:SB≠g:=fun e=>by
  subst e;rw[hS] at hb';simp at hb'
 refine⟨hx,?_,Gy h.now (fun g' cs' hg' _=>Below.heap_setCell _ ⟨g,x,none⟩ _ _ (fun e=>hX ?_)),by rw[Vf.less,hb,Bool.or_true],iC h.grown (wI (ui W g) x _),(gZ (Below.heap_setCell _ ⟨g,x,none⟩ _ _ Oi) _).trans h.cell,h.own⟩
 ·have h1:=h.se.clear (x:=x) hi (if_pos rfl) h.cell
  rw[aco,← Vf.ach hb] at h1;exact h1
 ·have e':g'=g:=e
  rw[← h.own,hg',e']
set_option maxRecDepth 1000000 in
theorem acp (t0 t1 t2 t3 t4 t5 t6 t7 t8 t9 t10 t11 t13 t14 t15 t16 t17 t18 t19 t20 t21 t22 t23 t24 t27 t28 t29 t30 t31 t32 t33 t34 t35 t36 t37 t38 t39 t40 t41 t42 t43 t44 t45 t46 t47 t48 t49 t50 t51 t52 t53 t54 t55 t56 t57 t58 t59 t60 t61 t62 t63 t64 t65 t66 t67 t68 t69 t70 t71 t72 t73 t74 t75 t76 t77 t78 t79 t80 t81 t82 t83 t84 t85 t86 t87 t88 t89 t90 t91 t92 t93 t94 t95 t96 t97 t98 t99 t100 t101 t102 t103 t104 t105 t106 t107 t108 t109 t110 t111 t112 t113 t114 t115 t116 t117 t118 t119 t120 t121 t122 t123 t124 t125 t126 t127 t128 t129 t130 t131 t132 t133 t134 t135 t136 t137 t138 t139 t140 t141 t142 t143 t144 t145 t146 t147 t148 t149 t150 t151 t152 t153 t154 t155 t156 t157 t158 t159 t160 t161 t162 t163 t164 aY aZ t167 t168 bf bg t171 bn t173 bz t175 bA bB bD bF bG bH t182 t183 bI bJ bK bL bM bN bO bP bQ t193 t194 bR t196 bS t198 bT bU t201 bV t203 bW bX t206 bY t208 bZ t210 cz t212 t213 cB cK cO cZ t218 df dh di t222 dm dn dw t226 t227 t228 t229 dx dz t232 t233 t234 dB t236 dC dD dE dF dG dH dI dJ dK dL dM dN dO dP dQ dR dS dU dV dW dX dY dZ ed ek eu eB eD eF eG eH eO eP eQ eT eU eX eY eZ fI fJ fK fM fO fP fQ fT fU fV fZ gp gu gy gz gB gD gF gG gH gI gJ gK fq fw fA fB fC fD aL:Value)(Bq n len SB i C:Nat)(come:Nat→Option (List Int × List Bool))(X:Option Nat)(st:List Int)(tf kf:Vf.Fl)(nv v:Value)(W0:World)(hi:i<len)(hn:n≤200)(x:Nat)(lb:Bool)(w:World)(hL:Hid (L4 Bq n len SB i C come X st tf kf nv v W0 x lb w))(K:Act→World→Prop)(Q:Exit→Act→World→Prop)
  (hK:∀ (u27 iE iF iG iH iI iJ iK iL iM iN iO iP iQ iR iT iU iV iW iX iY iZ jb jc:Value) (lb:Bool) (w':World),L4 Bq n len SB i C come X st tf kf nv v W0 (x+1) lb w'→x<n→K ⟨#[t0,t1,t2,t3,t4,t5,t6,t7,t8,t9,t10,t11,nv,t13,t14,t15,t16,t17,t18,t19,t20,t21,t22,t23,t24,.pointer (some ⟨SB,i * 3,none⟩),.bool lb,u27,t28,t29,t30,t31,t32,t33,t34,t35,t36,t37,t38,t39,t40,t41,t42,t43,t44,t45,t46,t47,t48,t49,t50,t51,t52,t53,t54,t55,t56,t57,t58,t59,t60,t61,t62,t63,t64,t65,t66,t67,t68,t69,t70,t71,t72,t73,t74,t75,t76,t77,t78,t79,t80,t81,t82,t83,t84,t85,t86,t87,t88,t89,t90,t91,t92,t93,t94,t95,t96,t97,t98,t99,t100,t101,t102,t103,t104,t105,t106,t107,t108,t109,t110,t111,t112,t113,t114,t115,t116,t117,t118,t119,t120,t121,t122,t123,t124,t125,t126,t127,t128,t129,t130,t131,t132,t133,t134,t135,t136,t137,t138,t139,t140,t141,t142,t143,t144,t145,t146,t147,t148,t149,t150,t151,t152,t153,t154,t155,t156,t157,t158,t159,t160,t161,t162,t163,t164,aY,aZ,t167,t168,bf,bg,t171,bn,t173,bz,t175,bA,bB,bD,bF,bG,bH,t182,t183,bI,bJ,bK,bL,bM,bN,bO,bP,bQ,t193,t194,bR,t196,bS,t198,bT,bU,t201,bV,t203,bW,bX,t206,bY,t208,bZ,t210,cz,t212,t213,cB,cK,cO,cZ,t218,df,dh,di,t222,dm,dn,dw,t226,t227,t228,t229,dx,dz,t232,t233,t234,dB,t236,dC,dD,dE,dF,dG,dH,dI,dJ,dK,dL,dM,dN,dO,dP,dQ,dR,dS,dU,dV,dW,dX,dY,dZ,ed,ek,eu,eB,eD,eF,eG,eH,eO,eP,eQ,eT,eU,eX,eY,eZ,.int .i64 (n:Int),.int .i64 ((x+1:Nat):Int),iE,iF,iG,iH,iI,iJ,iK,iL,iM,iN,iO,iP,iQ,iR,iT,iU,iV,iW,iX,iY,iZ,jb,jc,fq,fw,fA,fB,fC,fD,aL],[]⟩ w')
  (hE:∀ (u27 jq iE iF iG iH iI iJ iK iL iM iN iO iP iQ iR iT iU iV iW iX iY iZ jb jc:Value) (lb:Bool) (w':World),L4 Bq n len SB i C come X st tf kf nv v W0 n lb w'→Q (.exit 7) ⟨#[t0,t1,t2,t3,t4,t5,t6,t7,t8,t9,t10,t11,nv,t13,t14,t15,t16,t17,t18,t19,t20,t21,t22,t23,t24,.pointer (some ⟨SB,i * 3,none⟩),.bool lb,u27,t28,t29,t30,t31,t32,t33,t34,t35,t36,t37,t38,t39,t40,t41,t42,t43,t44,t45,t46,t47,t48,t49,t50,t51,t52,t53,t54,t55,t56,t57,t58,t59,t60,t61,t62,t63,t64,t65,t66,t67,t68,t69,t70,t71,t72,t73,t74,t75,t76,t77,t78,t79,t80,t81,t82,t83,t84,t85,t86,t87,t88,t89,t90,t91,t92,t93,t94,t95,t96,t97,t98,t99,t100,t101,t102,t103,t104,t105,t106,t107,t108,t109,t110,t111,t112,t113,t114,t115,t116,t117,t118,t119,t120,t121,t122,t123,t124,t125,t126,t127,t128,t129,t130,t131,t132,t133,t134,t135,t136,t137,t138,t139,t140,t141,t142,t143,t144,t145,t146,t147,t148,t149,t150,t151,t152,t153,t154,t155,t156,t157,t158,t159,t160,t161,t162,t163,t164,aY,aZ,t167,t168,bf,bg,t171,bn,t173,bz,t175,bA,bB,bD,bF,bG,bH,t182,t183,bI,bJ,bK,bL,bM,bN,bO,bP,bQ,t193,t194,bR,t196,bS,t198,bT,bU,t201,bV,t203,bW,bX,t206,bY,t208,bZ,t210,cz,t212,t213,cB,cK,cO,cZ,t218,df,dh,di,t222,dm,dn,dw,t226,t227,t228,t229,dx,dz,t232,t233,t234,dB,t236,dC,dD,dE,dF,dG,dH,dI,dJ,dK,dL,dM,dN,dO,dP,dQ,dR,dS,dU,dV,dW,dX,dY,dZ,ed,ek,eu,eB,eD,eF,eG,eH,eO,eP,eQ,eT,eU,eX,eY,eZ,.int .i64 (n:Int),jq,iE,iF,iG,iH,iI,iJ,iK,iL,iM,iN,iO,iP,iQ,iR,iT,iU,iV,iW,iX,iY,iZ,jb,jc,fq,fw,fA,fB,fC,fD,aL],[]⟩ w') :
  Code.wp Tryz.prog Oo (Exit.then K Q) ⟨#[t0,t1,t2,t3,t4,t5,t6,t7,t8,t9,t10,t11,nv,t13,t14,t15,t16,t17,t18,t19,t20,t21,t22,t23,t24,.pointer (some ⟨SB,i * 3,none⟩),.bool lb,t27,t28,t29,t30,t31,t32,t33,t34,t35,t36,t37,t38,t39,t40,t41,t42,t43,t44,t45,t46,t47,t48,t49,t50,t51,t52,t53,t54,t55,t56,t57,t58,t59,t60,t61,t62,t63,t64,t65,t66,t67,t68,t69,t70,t71,t72,t73,t74,t75,t76,t77,t78,t79,t80,t81,t82,t83,t84,t85,t86,t87,t88,t89,t90,t91,t92,t93,t94,t95,t96,t97,t98,t99,t100,t101,t102,t103,t104,t105,t106,t107,t108,t109,t110,t111,t112,t113,t114,t115,t116,t117,t118,t119,t120,t121,t122,t123,t124,t125,t126,t127,t128,t129,t130,t131,t132,t133,t134,t135,t136,t137,t138,t139,t140,t141,t142,t143,t144,t145,t146,t147,t148,t149,t150,t151,t152,t153,t154,t155,t156,t157,t158,t159,t160,t161,t162,t163,t164,aY,aZ,t167,t168,bf,bg,t171,bn,t173,bz,t175,bA,bB,bD,bF,bG,bH,t182,t183,bI,bJ,bK,bL,bM,bN,bO,bP,bQ,t193,t194,bR,t196,bS,t198,bT,bU,t201,bV,t203,bW,bX,t206,bY,t208,bZ,t210,cz,t212,t213,cB,cK,cO,cZ,t218,df,dh,di,t222,dm,dn,dw,t226,t227,t228,t229,dx,dz,t232,t233,t234,dB,t236,dC,dD,dE,dF,dG,dH,dI,dJ,dK,dL,dM,dN,dO,dP,dQ,dR,dS,dU,dV,dW,dX,dY,dZ,ed,ek,eu,eB,eD,eF,eG,eH,eO,eP,eQ,eT,eU,eX,eY,eZ,.int .i64 (n:Int),.int .i64 (x:Int),fI,fJ,fK,fM,fO,fP,fQ,fT,fU,fV,fZ,gp,gu,gy,gz,gB,gD,gF,gG,gH,gI,gJ,gK,fq,fw,fA,fB,fC,fD,aL],[]⟩ w:=by
 have HK:=hide hK;have HE:=hide hE;clear hK hE;conv=>arg 2;whnf
 have hle:=hL.out.le;by_cases hx:x<n
 ·obtain⟨s,v',c0,c1,c2,_,hbr,hbl,hsep⟩:=hL.out.se.yes hi (if_pos rfl)
  have hv:v'=v:=by have:=c2.symm.trans hL.out.cell;exact Option.some.inj this
  subst hv;obtain⟨g,cap,hvv,hg1,hg2,c3,f3⟩:=Gz hbr (Vf.GG tf kf x hx);obtain⟨g',cap',e',hg1',zB,c4,f4⟩:=Gz hL.out.now (Vf.A8 kf hx);rw[hbl] at hvv;have hxi:(x:Int)<(n:Int):=by omega
  have e1:(tf.has x && (decide (x≤x) || kf.has x))=tf.has x:=by simp
  rw[e1] at c3;rw[Vf.iB] at e';subst hvv e';have sK:Hid (some g≠X):=hsep g rfl;have hsl:=hL.out.se.lt;obtain⟨a,ha⟩:∃ a,a=tf.has x:=⟨_,rfl⟩;obtain⟨b,hb⟩:∃ b,b=kf.has x:=⟨_,rfl⟩;rw[← ha] at c3;rw[← hb] at c4;have HA:=hide ha;have HB:=hide hb;clear ha hb hbr hbl hsep e1;cases a with
  | false =>
   have HN:Hid ((tf.has x && !kf.has x)=false):=by unfold Hid;rw[← HA.out];rfl
   go_wp2
   exact HK.out _ _ _ _ _ _ _ _ _ _ _ _ _ _ _ _ _ _ _ _ _ _ _ _ _ _ (hL.out.no hx HN.out) hx
  | true =>
   cases b with
   | true =>
    have HN:Hid ((tf.has x && !kf.has x)=false):=by unfold Hid;rw[← HA.out,← HB.out];rfl
    go_wp2
    exact HK.out _ _ _ _ _ _ _ _ _ _ _ _ _ _ _ _ _ _ _ _ _ _ _ _ _ _ (hL.out.no hx HN.out) hx
   | false =>
    have HN:Hid ((tf.has x && !kf.has x)=true):=by unfold Hid;rw[← HA.out,← HB.out];rfl
    go_wp2
    exact HK.out _ _ _ _ _ _ _ _ _ _ _ _ _ _ _ _ _ _ _ _ _ _ _ _ _ _ (hL.out.yes hi hx HN.out sK.out) hx
 ·have hx2:x=n:=by omega
  subst hx2;go_wp2
  exact HE.out _ _ _ _ _ _ _ _ _ _ _ _ _ _ _ _ _ _ _ _ _ _ _ _ _ _ _ hL.out
set_option maxRecDepth 1000000 in
theorem Um (Bq n len SB i C:Nat)(come:Nat→Option (List Int × List Bool))(X:Option Nat)(st:List Int)(tf kf:Vf.Fl)(nv v:Value)(W0:World)(hi:i<len)(hn:n≤200)(Q:Exit→Act→World→Prop)(t0 t1 t2 t3 t4 t5 t6 t7 t8 t9 t10 t11 t13 t14 t15 t16 t17 t18 t19 t20 t21 t22 t23 t24 t28 t29 t30 t31 t32 t33 t34 t35 t36 t37 t38 t39 t40 t41 t42 t43 t44 t45 t46 t47 t48 t49 t50 t51 t52 t53 t54 t55 t56 t57 t58 t59 t60 t61 t62 t63 t64 t65 t66 t67 t68 t69 t70 t71 t72 t73 t74 t75 t76 t77 t78 t79 t80 t81 t82 t83 t84 t85 t86 t87 t88 t89 t90 t91 t92 t93 t94 t95 t96 t97 t98 t99 t100 t101 t102 t103 t104 t105 t106 t107 t108 t109 t110 t111 t112 t113 t114 t115 t116 t117 t118 t119 t120 t121 t122 t123 t124 t125 t126 t127 t128 t129 t130 t131 t132 t133 t134 t135 t136 t137 t138 t139 t140 t141 t142 t143 t144 t145 t146 t147 t148 t149 t150 t151 t152 t153 t154 t155 t156 t157 t158 t159 t160 t161 t162 t163 t164 aY aZ t167 t168 bf bg t171 bn t173 bz t175 bA bB bD bF bG bH t182 t183 bI bJ bK bL bM bN bO bP bQ t193 t194 bR t196 bS t198 bT bU t201 bV t203 bW bX t206 bY t208 bZ t210 cz t212 t213 cB cK cO cZ t218 df dh di t222 dm dn dw t226 t227 t228 t229 dx dz t232 t233 t234 dB t236 dC dD dE dF dG dH dI dJ dK dL dM dN dO dP dQ dR dS dU dV dW dX dY dZ ed ek eu eB eD eF eG eH eO eP eQ eT eU eX eY eZ fq fw fA fB fC fD aL:Value)
  (hE:∀ (u27 jq iE iF iG iH iI iJ iK iL iM iN iO iP iQ iR iT iU iV iW iX iY iZ jb jc:Value) (lb:Bool) (w':World),L4 Bq n len SB i C come X st tf kf nv v W0 n lb w'→Q (.exit 7) ⟨#[t0,t1,t2,t3,t4,t5,t6,t7,t8,t9,t10,t11,nv,t13,t14,t15,t16,t17,t18,t19,t20,t21,t22,t23,t24,.pointer (some ⟨SB,i * 3,none⟩),.bool lb,u27,t28,t29,t30,t31,t32,t33,t34,t35,t36,t37,t38,t39,t40,t41,t42,t43,t44,t45,t46,t47,t48,t49,t50,t51,t52,t53,t54,t55,t56,t57,t58,t59,t60,t61,t62,t63,t64,t65,t66,t67,t68,t69,t70,t71,t72,t73,t74,t75,t76,t77,t78,t79,t80,t81,t82,t83,t84,t85,t86,t87,t88,t89,t90,t91,t92,t93,t94,t95,t96,t97,t98,t99,t100,t101,t102,t103,t104,t105,t106,t107,t108,t109,t110,t111,t112,t113,t114,t115,t116,t117,t118,t119,t120,t121,t122,t123,t124,t125,t126,t127,t128,t129,t130,t131,t132,t133,t134,t135,t136,t137,t138,t139,t140,t141,t142,t143,t144,t145,t146,t147,t148,t149,t150,t151,t152,t153,t154,t155,t156,t157,t158,t159,t160,t161,t162,t163,t164,aY,aZ,t167,t168,bf,bg,t171,bn,t173,bz,t175,bA,bB,bD,bF,bG,bH,t182,t183,bI,bJ,bK,bL,bM,bN,bO,bP,bQ,t193,t194,bR,t196,bS,t198,bT,bU,t201,bV,t203,bW,bX,t206,bY,t208,bZ,t210,cz,t212,t213,cB,cK,cO,cZ,t218,df,dh,di,t222,dm,dn,dw,t226,t227,t228,t229,dx,dz,t232,t233,t234,dB,t236,dC,dD,dE,dF,dG,dH,dI,dJ,dK,dL,dM,dN,dO,dP,dQ,dR,dS,dU,dV,dW,dX,dY,dZ,ed,ek,eu,eB,eD,eF,eG,eH,eO,eP,eQ,eT,eU,eX,eY,eZ,.int .i64 (n:Int),jq,iE,iF,iG,iH,iI,iJ,iK,iL,iM,iN,iO,iP,iQ,iR,iT,iU,iV,iW,iX,iY,iZ,jb,jc,fq,fw,fA,fB,fC,fD,aL],[]⟩ w') :
  ∀ (f:Nat) (t27 fI fJ fK fM fO fP fQ fT fU fV fZ gp gu gy gz gB gD gF gG gH gI gJ gK:Value) (x:Nat) (lb:Bool) (w:World),n - x<f→L4 Bq n len SB i C come X st tf kf nv v W0 x lb w→Code.rounds Tryz.prog Oo Q f ⟨#[t0,t1,t2,t3,t4,t5,t6,t7,t8,t9,t10,t11,nv,t13,t14,t15,t16,t17,t18,t19,t20,t21,t22,t23,t24,.pointer (some ⟨SB,i * 3,none⟩),.bool lb,t27,t28,t29,t30,t31,t32,t33,t34,t35,t36,t37,t38,t39,t40,t41,t42,t43,t44,t45,t46,t47,t48,t49,t50,t51,t52,t53,t54,t55,t56,t57,t58,t59,t60,t61,t62,t63,t64,t65,t66,t67,t68,t69,t70,t71,t72,t73,t74,t75,t76,t77,t78,t79,t80,t81,t82,t83,t84,t85,t86,t87,t88,t89,t90,t91,t92,t93,t94,t95,t96,t97,t98,t99,t100,t101,t102,t103,t104,t105,t106,t107,t108,t109,t110,t111,t112,t113,t114,t115,t116,t117,t118,t119,t120,t121,t122,t123,t124,t125,t126,t127,t128,t129,t130,t131,t132,t133,t134,t135,t136,t137,t138,t139,t140,t141,t142,t143,t144,t145,t146,t147,t148,t149,t150,t151,t152,t153,t154,t155,t156,t157,t158,t159,t160,t161,t162,t163,t164,aY,aZ,t167,t168,bf,bg,t171,bn,t173,bz,t175,bA,bB,bD,bF,bG,bH,t182,t183,bI,bJ,bK,bL,bM,bN,bO,bP,bQ,t193,t194,bR,t196,bS,t198,bT,bU,t201,bV,t203,bW,bX,t206,bY,t208,bZ,t210,cz,t212,t213,cB,cK,cO,cZ,t218,df,dh,di,t222,dm,dn,dw,t226,t227,t228,t229,dx,dz,t232,t233,t234,dB,t236,dC,dD,dE,dF,dG,dH,dI,dJ,dK,dL,dM,dN,dO,dP,dQ,dR,dS,dU,dV,dW,dX,dY,dZ,ed,ek,eu,eB,eD,eF,eG,eH,eO,eP,eQ,eT,eU,eX,eY,eZ,.int .i64 (n:Int),.int .i64 (x:Int),fI,fJ,fK,fM,fO,fP,fQ,fT,fU,fV,fZ,gp,gu,gy,gz,gB,gD,gF,gG,gH,gI,gJ,gK,fq,fw,fA,fB,fC,fD,aL],[]⟩ w
 | 0,t27,fI,fJ,fK,fM,fO,fP,fQ,fT,fU,fV,fZ,gp,gu,gy,gz,gB,gD,gF,gG,gH,gI,gJ,gK,_,_,_,h,_=>absurd h (Nat.not_lt_zero _)
 | f+1,t27,fI,fJ,fK,fM,fO,fP,fQ,fT,fU,fV,fZ,gp,gu,gy,gz,gB,gD,gF,gG,gH,gI,gJ,gK,x,lb,w,h,hL=>acp t0 t1 t2 t3 t4 t5 t6 t7 t8 t9 t10 t11 t13 t14 t15 t16 t17 t18 t19 t20 t21 t22 t23 t24 t27 t28 t29 t30 t31 t32 t33 t34 t35 t36 t37 t38 t39 t40 t41 t42 t43 t44 t45 t46 t47 t48 t49 t50 t51 t52 t53 t54 t55 t56 t57 t58 t59 t60 t61 t62 t63 t64 t65 t66 t67 t68 t69 t70 t71 t72 t73 t74 t75 t76 t77 t78 t79 t80 t81 t82 t83 t84 t85 t86 t87 t88 t89 t90 t91 t92 t93 t94 t95 t96 t97 t98 t99 t100 t101 t102 t103 t104 t105 t106 t107 t108 t109 t110 t111 t112 t113 t114 t115 t116 t117 t118 t119 t120 t121 t122 t123 t124 t125 t126 t127 t128 t129 t130 t131 t132 t133 t134 t135 t136 t137 t138 t139 t140 t141 t142 t143 t144 t145 t146 t147 t148 t149 t150 t151 t152 t153 t154 t155 t156 t157 t158 t159 t160 t161 t162 t163 t164 aY aZ t167 t168 bf bg t171 bn t173 bz t175 bA bB bD bF bG bH t182 t183 bI bJ bK bL bM bN bO bP bQ t193 t194 bR t196 bS t198 bT bU t201 bV t203 bW bX t206 bY t208 bZ t210 cz t212 t213 cB cK cO cZ t218 df dh di t222 dm dn dw t226 t227 t228 t229 dx dz t232 t233 t234 dB t236 dC dD dE dF dG dH dI dJ dK dL dM dN dO dP dQ dR dS dU dV dW dX dY dZ ed ek eu eB eD eF eG eH eO eP eQ eT eU eX eY eZ fI fJ fK fM fO fP fQ fT fU fV fZ gp gu gy gz gB gD gF gG gH gI gJ gK fq fw fA fB fC fD aL Bq n len SB i C come X st tf kf nv v W0 hi hn x lb w hL _ Q (fun u27 iE iF iG iH iI iJ iK iL iM iN iO iP iQ iR iT iU iV iW iX iY iZ jb jc lb w' hL' hx=>Um Bq n len SB i C come X st tf kf nv v W0 hi hn Q t0 t1 t2 t3 t4 t5 t6 t7 t8 t9 t10 t11 t13 t14 t15 t16 t17 t18 t19 t20 t21 t22 t23 t24 t28 t29 t30 t31 t32 t33 t34 t35 t36 t37 t38 t39 t40 t41 t42 t43 t44 t45 t46 t47 t48 t49 t50 t51 t52 t53 t54 t55 t56 t57 t58 t59 t60 t61 t62 t63 t64 t65 t66 t67 t68 t69 t70 t71 t72 t73 t74 t75 t76 t77 t78 t79 t80 t81 t82 t83 t84 t85 t86 t87 t88 t89 t90 t91 t92 t93 t94 t95 t96 t97 t98 t99 t100 t101 t102 t103 t104 t105 t106 t107 t108 t109 t110 t111 t112 t113 t114 t115 t116 t117 t118 t119 t120 t121 t122 t123 t124 t125 t126 t127 t128 t129 t130 t131 t132 t133 t134 t135 t136 t137 t138 t139 t140 t141 t142 t143 t144 t145 t146 t147 t148 t149 t150 t151 t152 t153 t154 t155 t156 t157 t158 t159 t160 t161 t162 t163 t164 aY aZ t167 t168 bf bg t171 bn t173 bz t175 bA bB bD bF bG bH t182 t183 bI bJ bK bL bM bN bO bP bQ t193 t194 bR t196 bS t198 bT bU t201 bV t203 bW bX t206 bY t208 bZ t210 cz t212 t213 cB cK cO cZ t218 df dh di t222 dm dn dw t226 t227 t228 t229 dx dz t232 t233 t234 dB t236 dC dD dE dF dG dH dI dJ dK dL dM dN dO dP dQ dR dS dU dV dW dX dY dZ ed ek eu eB eD eF eG eH eO eP eQ eT eU eX eY eZ fq fw fA fB fC fD aL hE f u27 iE iF iG iH iI iJ iK iL iM iN iO iP iQ iR iT iU iV iW iX iY iZ jb jc (x+1) lb w' (by omega) hL') hE
end Go.Proofs.YtbdpdjcdhclbfaaGreat
