/- Modules in memory,out of what an argument reads as. -/
import Derived.Test.YtbdpdjcdhclbfaaGreatM1
import Derived.ChangeArms
import Derived.DataReads
import Derived.Laws.AppendOwnNone
namespace Go.Proofs.YtbdpdjcdhclbfaaGreat
open Go.RowKit
section
variable {H:Type} {enc:TypeId × Value→H} {w:World} {base:Nat} {spare:Nat→Bool} {held:Bool}
theorem aav {a:Addr}{i n:Nat}{cs:List Value}(hn:0<n)(h:w.cells? base (a.add (i * n)) n=some cs)(h0:a.spot=none) :
  a.block<w.heap.size∧∀ j,j<n→w.cell? ⟨a.block,a.off+i * n+j,none⟩=cs[j]?:=by
 obtain⟨hb,hl,hc⟩:=World.cells?_some h;have hadd:∀ k,a.add k=⟨a.block,a.off+k,none⟩:=by
  intro k;unfold Addr.add;split
  ·subst_vars;cases a;simp_all
  ·rfl
 have hcell:∀ j,j<n→w.cell? ⟨a.block,a.off+i * n+j,none⟩=cs[j]?:=by
  intro j hj;have:=hc j hj;rw[hadd] at this;rw[← this];congr 1
  unfold Addr.add;split
  ·subst_vars;rfl
  ·rfl
 refine⟨?_,hcell⟩;have h1:=hcell 0 hn;rw[List.getElem?_eq_getElem (by omega)] at h1;cases hh:w.heap[a.block]? with
 | none=>simp[World.cell?,hh] at h1
 | some o=>exact lt_of_block hh
theorem aaw {a:Addr}{n:Nat}{cs:List Value}(hn:0<n)(h:w.cells? base (a.add (0 * n)) n=some cs):a.spot=none:=by
 obtain⟨hb,hl,hc⟩:=World.cells?_some h;have h1:=hc 0 hn;rw[List.getElem?_eq_getElem (by omega)] at h1;simp only[Nat.zero_mul,Addr.add,if_true] at h1;unfold World.cell? at h1;split at h1
 ·split at h1
  ·simp at h1
  ·rename_i hs;simpa using hs
 ·simp at h1
theorem Sw {α:Type}{p:Nat→α→Prop}:∀ (n:Nat),(∀ i,i<n→∃ y,p i y)→∃ l:List α,l.length=n∧∀ i y,l[i]?=some y→p i y
 | 0,_=>⟨[],rfl,fun i y hy=>by simp at hy⟩
 | m+1,hall=>by
  obtain⟨l,h1,h2⟩:=Sw m (fun i hi=>hall i (by omega));obtain⟨y,h3⟩:=hall m (by omega);refine⟨l++[y],by simp[h1],fun i z hz=>?_⟩;by_cases hi:i<l.length
  ·rw[List.getElem?_append_left hi] at hz;exact h2 i z hz
  ·rw[List.getElem?_append_right (by omega)] at hz
   have hi2:i - l.length=0:=by
    have:=(List.getElem?_eq_some_iff.1 hz).1;simp at this;omega
   rw[hi2] at hz;simp at hz;subst hz;obtain rfl:i=m:=by omega
   exact h3
theorem Ko {α:Type}{t e:TypeId}{n fuel:Nat}{cs:List Value}{x:DataW H × List MemPlace}(Q:Nat→List Value→α→Prop)
  (ht:Tryz.prog.underlying t=some (.slice e)) (hce:Tryz.prog.cellsOf e=n) (hn:0<n)
  (hQ:∀ f cs' x',f<fuel→DataW.trod enc Tryz.prog w base spare held f e cs'=some x'→∃ y,Q f cs' y)
  (h:DataW.trod enc Tryz.prog w base spare held fuel t cs=some x) :
  ∃ (l:List α) (a:Option Addr) (c:Nat),cs=[.slice a l.length c]∧l.length≤maxLen∧l.length≤c ∧
   ∀ i y,l[i]?=some y→∃ b off cs' f,a=some ⟨b,off,none⟩∧b<w.heap.size∧f<fuel∧cs'.length=n∧Q f cs' y∧∀ j,j<n→w.cell? ⟨b,off+i * n+j,none⟩=cs'[j]?:=by
 rcases DataW.trod_slice ht h with⟨rfl,_⟩ | ⟨a,len,cap,elems,rest,k,rfl,rfl,_,hb,hl,hm,hlen,hel,_,_⟩
 ·exact⟨[],none,0,rfl,Nat.zero_le _,Nat.zero_le _,fun i y hy=>by simp at hy⟩
 ·rw[hce] at hel
  have hall:∀ i,i<len→∃ cs' y,w.cells? base (a.add (i * n)) n=some cs'∧Q k cs' y:=by
   intro i hi;have:=hel i hi;rw[List.getElem?_eq_getElem (by omega)] at this;obtain⟨cs',h1,h2⟩:=Option.bind_eq_some_iff.1 this;obtain⟨y,hy⟩:=hQ k cs' _ (by omega) h2;exact⟨cs',y,h1,hy⟩
  obtain⟨l,hll,hlq⟩:=Sw (p:=fun i y=>∃ cs',w.cells? base (a.add (i * n)) n=some cs'∧Q k cs' y) len (fun i hi=>by
   obtain⟨cs',y,h1,h2⟩:=hall i hi;exact⟨y,cs',h1,h2⟩)
  refine⟨l,some a,cap,by rw[hll],by omega,by omega,fun i y hy=>?_⟩;have hi:=(List.getElem?_eq_some_iff.1 hy).1;have hsp:a.spot=none:=by
   obtain⟨cs0,y0,h1,_⟩:=hall 0 (by omega);exact aaw hn h1
  obtain⟨cs',h1,h2⟩:=hlq i y hy;obtain⟨h3,h4⟩:=aav hn h1 hsp;exact⟨a.block,a.off,cs',k,by cases a;simp_all,h3,by omega,(World.cells?_some h1).2.1,h2,h4⟩
theorem two {cs:List Value}(h:cs.length=2):∃ a b,cs=[a,b]:=by
 match cs,h with
 | [a,b],_=>exact⟨a,b,rfl⟩
theorem three {cs:List Value}(h:cs.length=3):∃ a b c,cs=[a,b,c]:=by
 match cs,h with
 | [a,b,c],_=>exact⟨a,b,c,rfl⟩
theorem yV {fs:Array Field}{n:Nat}{cs:List Value}{xs:List (DataW H × List MemPlace)}(hl:xs.length=fs.size)
  (h:∀ (i:Nat) (f:Field),fs[i]?=some f→DataW.trod enc Tryz.prog w base spare held n f.type ((cs.drop f.offset).take (Tryz.prog.cellsOf f.type))=xs[i]?)
  (i:Nat) (f:Field) (hf:fs[i]?=some f):∃ x,DataW.trod enc Tryz.prog w base spare held n f.type ((cs.drop f.offset).take (Tryz.prog.cellsOf f.type))=some x:=by
 have hi:i<fs.size:=(Array.getElem?_eq_some_iff.1 hf).1;exact⟨xs[i]'(by omega),by rw[h i f hf,List.getElem?_eq_getElem]⟩
theorem six {cs:List Value}(h:cs.length=6):∃ a b c d e f,cs=[a,b,c,d,e,f]:=by
 match cs,h with
 | [a,b,c,d,e,f],_=>exact⟨a,b,c,d,e,f,rfl⟩
theorem Sy:Tryz.prog.cellsOf 36=2:=by kernel_rfl
theorem Sz:Tryz.prog.cellsOf 47=3:=by kernel_rfl
theorem SA:Tryz.prog.cellsOf 40=6:=by kernel_rfl
theorem aax:Tryz.prog.cellsOf 25=2:=by kernel_rfl
theorem Kq:Tryz.prog.cellsOf 3=1:=by kernel_rfl
theorem aay:Tryz.prog.cellsOf 2=1:=by kernel_rfl
theorem aaz:Tryz.prog.cellsOf 37=1:=by kernel_rfl
theorem aaA:Tryz.prog.cellsOf 38=1:=by kernel_rfl
theorem aaB:Tryz.prog.cellsOf 22=1:=by kernel_rfl
theorem aaC:Tryz.prog.cellsOf 23=1:=by kernel_rfl
theorem wf_i64 {n:Int}(h:(Lit.int .i64 n).wf=true):dA n:=by
 simp only[Lit.wf,Bool.and_eq_true,decide_eq_true_eq] at h;have e1:IntKind.i64.min=-9223372036854775808:=by decide
 have e2:IntKind.i64.max=9223372036854775807:=by decide
 rw[e1,e2] at h;exact h
theorem Ci {fuel:Nat}{cs:List Value}{x:DataW H × List MemPlace}(h:DataW.trod enc Tryz.prog w base spare held fuel 3 cs=some x):∃ n:Int,dA n∧cs=[.int .i64 n]:=by
 obtain⟨n,hn,_,hw⟩:=DataW.trod_int Tryz.underlying3 h;exact⟨n,wf_i64 hw,hn⟩
theorem aaD {fuel:Nat}{cs:List Value}{x:DataW H × List MemPlace}(h:DataW.trod enc Tryz.prog w base spare held fuel 2 cs=some x):∃ n:Int,dA n∧cs=[.int .i64 n]:=by
 obtain⟨n,hn,_,hw⟩:=DataW.trod_int Tryz.underlying2 h;exact⟨n,wf_i64 hw,hn⟩
theorem aaE {fuel:Nat}{cs:List Value}{x:DataW H × List MemPlace}(h:DataW.trod enc Tryz.prog w base spare held fuel 37 cs=some x) :
  ∃ (l:List Int) (a:Option Addr) (c:Nat),cs=[.slice a l.length c]∧IntsIn w.heap.size w l a∧l.length≤9223372036854775807∧l.length≤c:=by
 obtain⟨l,a,c,hcs,hm,hc,hall⟩:=Ko (n:=1) (fun _ cs' (y:Int)=>dA y∧cs'=[.int .i64 y]) Tryz.underlying37 Kq (by decide) (fun f cs' x' _ hx'=>Ci hx') h;refine⟨l,a,c,hcs,fun i y hy=>?_,by unfold maxLen at hm;omega,hc⟩;obtain⟨b,off,cs',f,he,hb,_,_,⟨h1,rfl⟩,hcell⟩:=hall i y hy;exact⟨h1,b,off,he,hb,by have:=hcell 0 (by decide);rw[Nat.mul_one] at this;exact this⟩
theorem aaF {fuel:Nat}{cs:List Value}{x:DataW H × List MemPlace}(h:DataW.trod enc Tryz.prog w base spare held fuel 36 cs=some x) :
  ∃ o:Vf.Bx,(dA o.ty∧dA o.cap)∧cs=[.int .i64 o.ty,.int .i64 o.cap]:=by
 obtain⟨xs,n,rfl,_,hl,hxl,hf⟩:=DataW.trod_struct Tryz.underlying36 h;rw[Sy] at hl;obtain⟨a,b,rfl⟩:=two hl;obtain⟨x0,h0⟩:∃ x,DataW.trod enc Tryz.prog w base spare held n 3 (([a,b].drop 0).take (Tryz.prog.cellsOf 3))=some x:=yV hxl hf 0 _ rfl;obtain⟨x1,h1⟩:∃ x,DataW.trod enc Tryz.prog w base spare held n 3 (([a,b].drop 1).take (Tryz.prog.cellsOf 3))=some x:=yV hxl hf 1 _ rfl;simp only[Kq] at h0 h1;obtain⟨p,p1,p2⟩:=Ci h0;obtain⟨q,q1,q2⟩:=Ci h1;simp at p2 q2;exact⟨⟨p,q⟩,⟨p1,q1⟩,by rw[p2,q2]⟩
theorem aaG {fuel:Nat}{cs:List Value}{x:DataW H × List MemPlace}(h:DataW.trod enc Tryz.prog w base spare held fuel 47 cs=some x) :
  ∃ o:Vf.Ins,(dA o.op∧dA o.a∧dA o.n)∧cs=[.int .i64 o.op,.int .i64 o.a,.int .i64 o.n]:=by
 obtain⟨xs,n,rfl,_,hl,hxl,hf⟩:=DataW.trod_struct Tryz.underlying47 h;rw[Sz] at hl;obtain⟨a,b,c,rfl⟩:=three hl;obtain⟨x0,h0⟩:∃ x,DataW.trod enc Tryz.prog w base spare held n 3 (([a,b,c].drop 0).take (Tryz.prog.cellsOf 3))=some x:=yV hxl hf 0 _ rfl;obtain⟨x1,h1⟩:∃ x,DataW.trod enc Tryz.prog w base spare held n 3 (([a,b,c].drop 1).take (Tryz.prog.cellsOf 3))=some x:=yV hxl hf 1 _ rfl;obtain⟨x2,h2⟩:∃ x,DataW.trod enc Tryz.prog w base spare held n 2 (([a,b,c].drop 2).take (Tryz.prog.cellsOf 2))=some x:=yV hxl hf 2 _ rfl;simp only[Kq,aay] at h0 h1 h2;obtain⟨p,p1,p2⟩:=Ci h0;obtain⟨q,q1,q2⟩:=Ci h1;obtain⟨r,r1,r2⟩:=aaD h2;simp at p2 q2 r2;exact⟨⟨p,q,r⟩,⟨p1,q1,r1⟩,by rw[p2,q2,r2]⟩
theorem aaH {fuel:Nat}{cs:List Value}{x:DataW H × List MemPlace}(h:DataW.trod enc Tryz.prog w base spare held fuel 38 cs=some x) :
  ∃ (l:List Vf.Ins) (a:Option Addr) (c:Nat),cs=[.slice a l.length c]∧aV w.heap.size w l a∧l.length≤9223372036854775807∧l.length≤c:=by
 obtain⟨l,a,c,hcs,hm,hc,hall⟩:=Ko (n:=3) (fun _ cs' (y:Vf.Ins)=>(dA y.op∧dA y.a∧dA y.n)∧cs'=[.int .i64 y.op,.int .i64 y.a,.int .i64 y.n]) Tryz.underlying38 Sz (by decide) (fun f cs' x' _ hx'=>aaG hx') h;refine⟨l,a,c,hcs,fun i y hy=>?_,by unfold maxLen at hm;omega,hc⟩;obtain⟨b,off,cs',f,he,hb,_,_,⟨⟨h1,h2,h3⟩,rfl⟩,hcell⟩:=hall i y hy;exact⟨h1,h2,h3,b,off,he,hb,hcell 0 (by decide),hcell 1 (by decide),hcell 2 (by decide)⟩
theorem aaI {fuel:Nat}{cs:List Value}{x:DataW H × List MemPlace}(h:DataW.trod enc Tryz.prog w base spare held fuel 40 cs=some x) :
  ∃ u:Vf.Un,∃ al cl ac cc,ig w.heap.size w u al ac cl cc∧cs=[.int .i64 u.kind,.int .i64 u.params,.slice al u.locals.length cl,.int .i64 u.result,.int .i64 u.takes,.slice ac u.code.length cc]:=by
 obtain⟨xs,n,rfl,_,hl,hxl,hf⟩:=DataW.trod_struct Tryz.underlying40 h;rw[SA] at hl;obtain⟨a,b,c,d,e,f,rfl⟩:=six hl;obtain⟨x0,h0⟩:∃ x,DataW.trod enc Tryz.prog w base spare held n 3 (([a,b,c,d,e,f].drop 0).take (Tryz.prog.cellsOf 3))=some x:=yV hxl hf 0 _ rfl;obtain⟨x1,h1⟩:∃ x,DataW.trod enc Tryz.prog w base spare held n 3 (([a,b,c,d,e,f].drop 1).take (Tryz.prog.cellsOf 3))=some x:=yV hxl hf 1 _ rfl;obtain⟨x2,h2⟩:∃ x,DataW.trod enc Tryz.prog w base spare held n 37 (([a,b,c,d,e,f].drop 2).take (Tryz.prog.cellsOf 37))=some x:=yV hxl hf 2 _ rfl;obtain⟨x3,h3⟩:∃ x,DataW.trod enc Tryz.prog w base spare held n 3 (([a,b,c,d,e,f].drop 3).take (Tryz.prog.cellsOf 3))=some x:=yV hxl hf 3 _ rfl;obtain⟨x4,h4⟩:∃ x,DataW.trod enc Tryz.prog w base spare held n 3 (([a,b,c,d,e,f].drop 4).take (Tryz.prog.cellsOf 3))=some x:=yV hxl hf 4 _ rfl;obtain⟨x5,h5⟩:∃ x,DataW.trod enc Tryz.prog w base spare held n 38 (([a,b,c,d,e,f].drop 5).take (Tryz.prog.cellsOf 38))=some x:=yV hxl hf 5 _ rfl;simp only[Kq,aaz,aaA] at h0 h1 h2 h3 h4 h5;obtain⟨p0,i0,e0⟩:=Ci h0;obtain⟨p1,i1,e1⟩:=Ci h1;obtain⟨p2,a2,c2,e2,i2,l2,k2⟩:=aaE h2;obtain⟨p3,i3,e3⟩:=Ci h3;obtain⟨p4,i4,e4⟩:=Ci h4;obtain⟨p5,a5,c5,e5,i5,l5,k5⟩:=aaH h5;simp at e0 e1 e2 e3 e4 e5;exact⟨⟨p0,p1,p2,p3,p4,p5⟩,a2,c2,a5,c5,⟨⟨i0,i1,i3,i4⟩,⟨l2,l5⟩,⟨k2,k5⟩,i2,i5⟩,by rw[e0,e1,e2,e3,e4,e5]⟩
theorem aaJ {fuel:Nat}{cs:List Value}{x:DataW H × List MemPlace}(h:DataW.trod enc Tryz.prog w base spare held fuel 25 cs=some x) :
  ∃ m:Vf.Md,∃ ab cb au cu,cs=[.slice ab m.boxes.length cb,.slice au m.units.length cu]∧aD w.heap.size w m ab au:=by
 obtain⟨xs,n,rfl,_,hl,hxl,hf⟩:=DataW.trod_struct Tryz.underlying25 h;rw[aax] at hl;obtain⟨p,q,rfl⟩:=two hl;obtain⟨x0,h0⟩:∃ x,DataW.trod enc Tryz.prog w base spare held n 22 (([p,q].drop 0).take (Tryz.prog.cellsOf 22))=some x:=yV hxl hf 0 _ rfl;obtain⟨x1,h1⟩:∃ x,DataW.trod enc Tryz.prog w base spare held n 23 (([p,q].drop 1).take (Tryz.prog.cellsOf 23))=some x:=yV hxl hf 1 _ rfl;simp only[aaB,aaC] at h0 h1;obtain⟨l,a,c,hcs,hm,_,hall⟩:=Ko (n:=2) (fun _ cs' (y:Vf.Bx)=>(dA y.ty∧dA y.cap)∧cs'=[.int .i64 y.ty,.int .i64 y.cap]) Tryz.underlying22 Sy (by decide) (fun f cs' x' _ hx'=>aaF hx') h0;obtain⟨l2,a2,c2,hcs2,hm2,_,aaK⟩:=Ko (n:=6) (fun _ cs' (u:Vf.Un)=>∃ al cl ac cc,ig w.heap.size w u al ac cl cc∧cs'=[.int .i64 u.kind,.int .i64 u.params,.slice al u.locals.length cl,.int .i64 u.result,.int .i64 u.takes,.slice ac u.code.length cc]) Tryz.underlying23 SA (by decide) (fun f cs' x' _ hx'=>aaI hx') h1;simp at hcs hcs2;refine⟨⟨l,l2⟩,a,c,a2,c2,by rw[hcs,hcs2],⟨by unfold maxLen at hm;omega,by unfold maxLen at hm2;omega⟩,fun i y hy=>?_,fun i y hy=>?_⟩
 ·obtain⟨b,off,cs',f,he,hb,_,_,⟨⟨h1,h2⟩,rfl⟩,hcell⟩:=hall i y hy
  exact⟨h1,h2,b,off,he,hb,hcell 0 (by decide),hcell 1 (by decide)⟩
 ·obtain⟨b,off,cs',f,he,hb,_,_,⟨al,cl,ac,cc,hu,rfl⟩,hcell⟩:=aaK i y hy
  exact⟨b,off,al,cl,ac,cc,he,hb,hu,hcell 0 (by decide),hcell 1 (by decide),hcell 2 (by decide),hcell 3 (by decide),hcell 4 (by decide),hcell 5 (by decide)⟩
end
theorem Tryz.SC:(Tryz.prog.info? 40).map (fun i=>(i.zero,i.size,i.bytes))=some (some (.agg #[.int .i64 0,.int .i64 0,.slice none 0 0,.int .i64 0,.int .i64 0,.slice none 0 0]),6,80):=by kernel_rfl
structure UV where
 u:Vf.Un
 al:Option Addr
 ac:Option Addr
 cl:Nat
 cc:Nat
abbrev xV (x:UV):List Value:=[.int .i64 x.u.kind,.int .i64 x.u.params,.slice x.al x.u.locals.length x.cl,.int .i64 x.u.result,.int .i64 x.u.takes,.slice x.ac x.u.code.length x.cc]
def xk (l:List UV):List Value:=l.flatMap xV
theorem SE (x:UV)(l:List UV):xk (x :: l)=xV x++xk l:=rfl
theorem SF:∀ (l:List UV) (i:Nat) (x:UV),l[i]?=some x→∀ j,j<6→(xk l)[i * 6+j]?=(xV x)[j]?
 | y :: l,0,x,h,j,hj=>by
  simp at h;subst h;rw[SE,List.getElem?_append_left (by simp;omega)];simp
 | y :: l,i+1,x,h,j,hj=>by
  have:=SF l i x (by simpa using h) j hj;rw[SE,List.getElem?_append_right (by simp;omega)];rw[← this];congr 1
  simp;omega
structure Na (B:Nat) (w:World) (g:Nat) (l:List UV) (cap:Nat):Prop where
 blk:∃ cur:List Value,w.heap[g]?=some (.cells (List.toArray cur) 40 (0,0))∧cur.take (l.length * 6)=xk l∧l.length * 6≤cur.length
 un:∀ (i:Nat) x,l[i]?=some x→ig B w x.u x.al x.ac x.cl x.cc
theorem Na.units {B:Nat}{w:World}{g:Nat}{l:List UV}{cap:Nat}(h:Na B w g l cap)(hB:w.heap.size≤B):FM B w (l.map (·.u)) (some ⟨g,0,none⟩):=by
 obtain⟨cur,h1,h2,h3⟩:=h.blk;have hlt:=lt_of_block h1;intro i u hu;rw[List.getElem?_map] at hu;obtain⟨x,hx,rfl⟩:=Option.map_eq_some_iff.1 hu;have hi:=(List.getElem?_eq_some_iff.1 hx).1;have cell:∀ j,j<6→w.cell? ⟨g,0+i * 6+j,none⟩=(xV x)[j]?:=fun j hj=>by
  rw[← SF l i x hx j hj,← h2,List.getElem?_take,if_pos (by omega)];simp[World.cell?,h1]
 exact⟨g,0,x.al,x.cl,x.ac,x.cc,rfl,by omega,h.un i x hx,cell 0 (by decide),cell 1 (by decide),cell 2 (by decide),cell 3 (by decide),cell 4 (by decide),cell 5 (by decide)⟩
theorem aaL (X:World)(e:TypeId){M:Nat}(hM:M≤X.heap.size)(size:Nat):(X.alloc (.cells #[] e)).ownsRow M e size (.slice (some ⟨X.heap.size,0,none⟩) 0 0) 0 [] :=
 ⟨by simp,.inr ⟨X.heap.size,0,#[],rfl,hM,heap_alloc_new X _,Nat.le_refl _,by unfold maxLen;omega,by simp,by simp⟩⟩
theorem SG {B C:Nat}{w:World}{v:Value}{l:List UV}(h:w.ownsRow C 40 6 v l.length (xk l))(hn:0<l.length)(hu:∀ (i:Nat) x,l[i]?=some x→ig B w x.u x.al x.ac x.cl x.cc):∃ g cap,v=.slice (some ⟨g,0,none⟩) l.length cap∧C≤g∧g<w.heap.size∧l.length≤cap∧Na B w g l cap:=by
 rcases h.2 with⟨_,h0⟩ | ⟨g,cap,cur,rfl,hg,hh,h1,h2,h3,h4⟩
 ·omega
 ·exact⟨g,cap,rfl,hg,lt_of_block hh,h1,⟨cur.toList,hh,h4,by simp;rw[h3];exact Nat.mul_le_mul_right 6 h1⟩,hu⟩
theorem ig.grown {B:Nat}{w w':World}{u:Vf.Un}{al ac:Option Addr}{cl cc g:Nat}(h:ig B w u al ac cl cc)(hg:w.grownBy w' (some g))(hB:B≤g)(hw:B≤w.heap.size):ig B w' u al ac cl cc:=h.low (fun k hk=>hg.block k (by omega) (by simp;omega))
theorem Tryz.aaM:(Tryz.prog.info? 36).map (fun i=>(i.zero,i.size,i.bytes))=some (some (.agg #[.int .i64 0,.int .i64 0]),2,16):=by kernel_rfl
theorem Tryz.SH:(Tryz.prog.info? 47).map (fun i=>(i.zero,i.size,i.bytes))=some (some (.agg #[.int .i64 0,.int .i64 0,.int .i64 0]),3,24):=by kernel_rfl
section
variable {P:Program} {w:World}
theorem run_append_nothing (base:Nat)(t ty e:TypeId)(i:TypeInfo)(size:Nat)(ht:P.underlying t=some (.slice e))(hi:P.info? e=some i)(v:Value)(n:Nat)(xs:List Value)(hown:w.ownsRow base e size v n xs)(c:Nat) :
  (Builtin.append_ #[t,t] ty #[v,.slice none 0 c]).run P w=.ok v w:=by
 rcases hown.2 with⟨rfl,rfl⟩ | ⟨g,cap,cur,rfl,_,_,hnc,_⟩
 ·simp[Builtin.append_,run_underlying ht,sizeOf,typeInfo,hi,Builtin.lenOf,Builtin.firstCells]
 ·simp[Builtin.append_,run_underlying ht,sizeOf,typeInfo,hi,Builtin.lenOf,Builtin.firstCells,hnc,storeCells]
theorem Io {ops:Array Oper}{rest:List Oper}{o:Oper}{a:Act}{Q:Exit→Act→World→Prop}(hgd:o.guard=none)(s x:Operand)(t:TypeId)
  (ho:o.op=.call { callee:=.builtin .append,args:=#[s,x],argTypes:=#[t,t] })
  (base:Nat) (e:TypeId) (i:TypeInfo) (z:Value) (size bytes:Nat) (ht:P.underlying t=some (.slice e)) (hi:P.info? e=some i) (hz:i.zero=some z)
  (hsize:i.size=size) (hby:i.bytes=bytes) (hzs:z.cells.size=size) (hsz:0<size)
  (v:Value) (n:Nat) (xs:List Value) (hs:a.eval s=v) (hown:w.ownsRow base e size v n xs)
  (ao:Option Addr) (m c:Nat) (news:List Value) (hx:a.eval x=.slice ao m c) (hno:ao=none→m=0) (hl:news.length=m * size) (hnews:∀ ad,ao=some ad→∀ j u,news[j]?=some u→w.cell? (ad.add j)=some u) (h1:∀ u ∈ news,u.oneCell'=true)
  (h63:n+m≤maxLen) (hbytes:(n+m) * bytes≤140737488355328) (hbase:base≤w.heap.size)
  (h:∀ v' w',w'.ownsRow base e size v' (n+m) (xs++news)→w.grownBy w' v.ownBlock→wpList P ops Q rest (a.put o.dst v') w'):wpList P ops Q (o :: rest) a w:=by
 cases ao with
 | none =>
  obtain rfl:=hno rfl;obtain rfl:news=[]:=List.eq_nil_of_length_eq_zero (by simpa using hl);refine wpList_plain hgd fun K hK=>?_;have hrun:=run_append_nothing (P:=P) (w:=w) base t o.type e i size ht hi v n xs hown c;unfold Oper.wp;simp[execOp,ho,resolve,invoke,builtin,hs,hx,hrun,Result.andThen];exact hK _ _ (h v w (by simpa using hown) (World.grownBy.refl _ _))
 | some ad=>exact wpList_append_own w hgd s x t ho base e i z size bytes ht hi hz hsize hby hzs hsz v n xs hs hown ad m c news hx hl (hnews ad rfl) h1 h63 hbytes hbase (fun v' w' h2 h3 _=>h v' w' h2 h3)
theorem aaN {w w':World}{C:Nat}{e:TypeId}{size n:Nat}{v:Value}{xs:List Value}(h:w.ownsRow C e size v n xs)(hg:w.grownBy w' none):w'.ownsRow C e size v n xs:=by
 refine⟨h.1,?_⟩;rcases h.2 with h1 | ⟨g,cap,cur,h1,h2,h3,h4⟩
 ·exact .inl h1
 ·exact .inr ⟨g,cap,cur,h1,h2,(hg.block _ (lt_of_block h3) (by simp)).trans h3,h4⟩
end
theorem Nb {α:Type}(f:α→List Value)(k:Nat)(hf:∀ x,(f x).length=k)(l:List α):(l.flatMap f).length=l.length * k:=by
 induction l with
 | nil=>simp
 | cons x l ih=>rw[List.flatMap_cons,List.length_append,ih,hf,List.length_cons,Nat.succ_mul];omega
theorem Nc {α:Type}(f:α→List Value)(k:Nat)(hf:∀ x,(f x).length=k):∀ (l:List α) (i:Nat) (x:α),l[i]?=some x→∀ j,j<k→(l.flatMap f)[i * k+j]?=(f x)[j]?
 | y :: l,0,x,h,j,hj=>by
  simp at h;subst h;rw[List.flatMap_cons,List.getElem?_append_left (by rw[hf];omega)];simp
 | y :: l,i+1,x,h,j,hj=>by
  have:=Nc f k hf l i x (by simpa using h) j hj;rw[List.flatMap_cons,Nat.succ_mul,List.getElem?_append_right (by rw[hf];omega),← this];congr 1
  rw[hf];omega
theorem SI {α:Type}(f:α→List Value)(k:Nat)(h0:0<k)(hf:∀ x,(f x).length=k){l:List α}{j:Nat}{v:Value}(h:(l.flatMap f)[j]?=some v):∃ i j' x,j=i * k+j'∧j'<k∧l[i]?=some x∧(f x)[j']?=some v:=by
 have hlt:=(List.getElem?_eq_some_iff.1 h).1;rw[Nb f k hf] at hlt;have hi:j / k<l.length:=(Nat.div_lt_iff_lt_mul h0).2 hlt;have hm:=Nat.mod_lt j h0;have hx:=List.getElem?_eq_getElem hi;have e:j=j / k * k+j % k:=by rw[Nat.mul_comm];exact (Nat.div_add_mod j k).symm
 refine⟨j / k,j % k,l[j / k],e,hm,hx,?_⟩;rw[← Nc f k hf l _ _ hx _ hm,← e];exact h
abbrev Fy (b:Vf.Bx):List Value:=[.int .i64 b.ty,.int .i64 b.cap]
abbrev tQ (c:Vf.Ins):List Value:=[.int .i64 c.op,.int .i64 c.a,.int .i64 c.n]
theorem Gn {b off j:Nat}:(⟨b,off,none⟩:Addr).add j=⟨b,off+j,none⟩:=by
 unfold Addr.add;split
 ·rename_i h0
  have h1:j=0:=h0;rw[h1];rfl
 ·rfl
theorem aaO {B:Nat}{w:World}{l:List Vf.Bx}{ab:Option Addr}(h:xw B w l ab):∀ ad,ab=some ad→∀ j v,(l.flatMap Fy)[j]?=some v→w.cell? (ad.add j)=some v:=by
 intro ad ha j v hv;obtain⟨i,j',x,rfl,hj,hx,hv'⟩:=SI Fy 2 (by decide) (fun _=>rfl) hv;obtain⟨_,_,b,off,e,_,c0,c1⟩:=h i x hx;rw[ha] at e;cases e;rw[Gn];rcases (by omega:j'=0∨j'=1) with rfl | rfl
 ·rw[show off+(i * 2+0)=off+i * 2 by omega,c0];exact hv'
 ·rw[show off+(i * 2+1)=off+i * 2+1 by omega,c1];exact hv'
theorem aaP {B:Nat}{w:World}{l:List Vf.Ins}{b off:Nat}(h:aV B w l (some ⟨b,off,none⟩)):∀ j v,(l.flatMap tQ)[j]?=some v→w.cell? ((⟨b,off,none⟩:Addr).add j)=some v:=by
 intro j v hv;obtain⟨i,j',x,rfl,hj,hx,hv'⟩:=SI tQ 3 (by decide) (fun _=>rfl) hv;obtain⟨_,_,_,b',off',e,_,c0,c1,c2⟩:=h i x hx;cases e;rw[Gn];rcases (by omega:j'=0∨j'=1∨j'=2) with rfl | rfl | rfl
 ·rw[show off+(i * 3+0)=off+i * 3 by omega,c0];exact hv'
 ·rw[show off+(i * 3+1)=off+i * 3+1 by omega,c1];exact hv'
 ·rw[show off+(i * 3+2)=off+i * 3+2 by omega,c2];exact hv'
theorem aaQ (l:List Vf.Bx):∀ v ∈ l.flatMap Fy,v.oneCell'=true:=by
 intro v hv;obtain⟨x,_,hx⟩:=List.mem_flatMap.1 hv;simp at hx;rcases hx with rfl | rfl<;>rfl
theorem aaR (l:List Vf.Ins):∀ v ∈ l.flatMap tQ,v.oneCell'=true:=by
 intro v hv;obtain⟨x,_,hx⟩:=List.mem_flatMap.1 hv;simp at hx;rcases hx with rfl | rfl | rfl<;>rfl
theorem SK {α:Type}{f:α→List Value}{k:Nat}{w:World}{g:Nat}{t:TypeId}{cur:List Value}{l:List α}(hf:∀ x,(f x).length=k)(hb:w.heap[g]?=some (.cells (List.toArray cur) t (0,0)))(ht:cur.take (l.length * k)=l.flatMap f){i:Nat}{x:α}(hx:l[i]?=some x){j:Nat}(hj:j<k):w.cell? ⟨g,0+i * k+j,none⟩=(f x)[j]?:=by
 have hi:=(List.getElem?_eq_some_iff.1 hx).1;have hle:i * k+j<l.length * k:=by
  have:(i+1) * k≤l.length * k:=Nat.mul_le_mul_right k hi;rw[Nat.succ_mul] at this;omega
 rw[← Nc f k hf l i x hx j hj,← ht,List.getElem?_take,if_pos hle];simp[World.cell?,hb]
theorem aaS {w:World}{g:Nat}{cur:List Value}{l:List Vf.Bx}(hb:w.heap[g]?=some (.cells (List.toArray cur) 36 (0,0)))(ht:cur.take (l.length * 2)=l.flatMap Fy)(hI:∀ x ∈ l,dA x.ty∧dA x.cap):xw w.heap.size w l (some ⟨g,0,none⟩):=by
 intro i x hx;have c:∀ j,j<2→_:=fun j hj=>SK (f:=Fy) (k:=2) (fun _=>rfl) hb ht hx hj;exact⟨(hI x (List.mem_of_getElem? hx)).1,(hI x (List.mem_of_getElem? hx)).2,g,0,rfl,lt_of_block hb,c 0 (by decide),c 1 (by decide)⟩
theorem SL {w:World}{g:Nat}{cur:List Value}{l:List Vf.Ins}(hb:w.heap[g]?=some (.cells (List.toArray cur) 47 (0,0)))(ht:cur.take (l.length * 3)=l.flatMap tQ)(hI:∀ x ∈ l,dA x.op∧dA x.a∧dA x.n):aV w.heap.size w l (some ⟨g,0,none⟩):=by
 intro i x hx;have c:∀ j,j<3→_:=fun j hj=>SK (f:=tQ) (k:=3) (fun _=>rfl) hb ht hx hj;have hm:=hI x (List.mem_of_getElem? hx);exact⟨hm.1,hm.2.1,hm.2.2,g,0,rfl,lt_of_block hb,c 0 (by decide),c 1 (by decide),c 2 (by decide)⟩
end Go.Proofs.YtbdpdjcdhclbfaaGreat
