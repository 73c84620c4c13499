/- The walks of opt.copied. -/
import Derived.Test.YtbdpdjcdhclbfaaGreatM21
import Derived.Test.YtbdpdjcdhclbfaaGreatM22
set_option maxRecDepth 100000
set_option maxHeartbeats 2000000
namespace Go.Proofs.YtbdpdjcdhclbfaaGreat.Ow
open Go.RowKit Vf Vm Ot
theorem Em {P:Program}{e:TypeId}{z:Value}{s b:Nat}(h:(P.info? e).map (fun i=>(i.zero,i.size,i.bytes))=some (some z,s,b)):∃ i,P.info? e=some i∧i.zero=some z∧i.size=s∧i.bytes=b:=by
 obtain⟨i,hi,h⟩:=Option.map_eq_some_iff.1 h;simp only[Prod.mk.injEq] at h;exact⟨i,hi,h.1,h.2.1,h.2.2⟩
theorem Tryz.Nf:(Tryz.prog.info? 3).map (fun i=>(i.zero,i.size,i.bytes))=some (some (.int .i64 0),1,8):=by kernel_rfl
theorem Gp (w:World)(B:Nat)(e:TypeId)(size:Nat):w.ownsRow B e size (.slice none 0 0) 0 []:=⟨by simp,.inl ⟨rfl,rfl⟩⟩
theorem Ng {w w':World}(h:w.grownBy w' (Value.slice none 0 0).ownBlock):Below w.heap.size w w':=⟨h.os,h.tape,h.output,h.size,fun k hk=>h.block k hk (by simp[Value.ownBlock])⟩
abbrev ints (l:List Int):List Value:=l.map (Value.int .i64)
theorem aaT {B:Nat}{w:World}{l:List Int}{a:Option Addr}(h:IntsIn B w l a):∀ ad,a=some ad→∀ j v,(ints l)[j]?=some v→w.cell? (ad.add j)=some v:=by
 intro ad ha j v hv;rw[List.getElem?_map] at hv;obtain⟨x,hx,rfl⟩:=Option.map_eq_some_iff.1 hv;obtain⟨_,b,off,e,_,c0⟩:=h j x hx;rw[ha] at e;cases e;rw[Gn];exact c0
theorem aaU (l:List Int):∀ v ∈ ints l,v.oneCell'=true:=by
 intro v hv;obtain⟨x,_,rfl⟩:=List.mem_map.1 hv;rfl
theorem aaV {B:Nat}{w:World}{l:List Int}{a:Option Addr}(h:IntsIn B w l a):a=none→l.length=0:=fun e=>by
 cases l with
 | nil=>rfl
 | cons x l =>
  obtain⟨_,b,off,e',_⟩:=h 0 x rfl;rw[e] at e';cases e'
theorem aaW {B:Nat}{w:World}{l:List Bx}{a:Option Addr}(h:xw B w l a):a=none→l.length=0:=fun e=>by
 cases l with
 | nil=>rfl
 | cons x l =>
  obtain⟨_,_,b,off,e',_⟩:=h 0 x rfl;rw[e] at e';cases e'
theorem aaX {B:Nat}{w:World}{l:List Ins}{a:Option Addr}(h:aV B w l a):a=none→l.length=0:=fun e=>by
 cases l with
 | nil=>rfl
 | cons x l =>
  obtain⟨_,_,_,b,off,e',_⟩:=h 0 x rfl;rw[e] at e';cases e'
theorem aaY {B:Nat}{w:World}{l:List Ins}{ad:Addr}(h:aV B w l (some ad))(hl:0<l.length):∃ b off,ad=⟨b,off,none⟩:=by
 obtain⟨_,_,_,b,off,e,_⟩:=h 0 l[0] (List.getElem?_eq_getElem hl);cases e;exact⟨b,off,rfl⟩
theorem yX {w:World}{B n size:Nat}{e:TypeId}{v:Value}{xs:List Value}(h:w.ownsRow B e size v n xs):∃ a' c',v=.slice a' n c'∧n≤c'∧(0<n→∃ g,∃ cur:List Value,a'=some ⟨g,0,none⟩∧B≤g∧w.heap[g]?=some (.cells (List.toArray cur) e (0,0))∧cur.take (n * size)=xs∧cur.length=c' * size∧c'≤maxLen):=by
 rcases h.2 with⟨rfl,rfl⟩ | ⟨g,cap,cur,rfl,hg,hh,h1,h2,h3,h4⟩
 ·exact⟨none,0,rfl,Nat.le_refl _,fun h=>by omega⟩
 ·exact⟨some ⟨g,0,none⟩,cap,rfl,h1,fun _=>⟨g,cur.toList,rfl,hg,hh,h4,by simpa using h3,h2⟩⟩
theorem aaZ {w:World}{g:Nat}{cur:List Value}{l:List Int}(hb:w.heap[g]?=some (.cells (List.toArray cur) 3 (0,0)))(ht:cur.take (l.length * 1)=ints l)(hI:∀ x ∈ l,dA x):IntsIn w.heap.size w l (some ⟨g,0,none⟩):=by
 intro i x hx;have hi:=(List.getElem?_eq_some_iff.1 hx).1;refine⟨hI x (List.mem_of_getElem? hx),g,0,rfl,lt_of_block hb,?_⟩;have:(cur.take (l.length * 1))[i]?=some (.int .i64 x):=by rw[ht];simp[hx]
 rw[List.getElem?_take,if_pos (by omega)] at this;simp[World.cell?,hb,this]
theorem aa0 {B:Nat}{w:World}{l:List Int}{a:Option Addr}(h:IntsIn B w l a):∀ x ∈ l,dA x:=fun x hx=>by
 obtain⟨i,hi⟩:=List.getElem?_of_mem hx;exact (h i x hi).1
theorem aa1 {B:Nat}{w:World}{l:List Bx}{a:Option Addr}(h:xw B w l a):∀ x ∈ l,dA x.ty∧dA x.cap:=fun x hx=>by
 obtain⟨i,hi⟩:=List.getElem?_of_mem hx;exact⟨(h i x hi).1,(h i x hi).2.1⟩
def xm (w:World)(a:Option Addr):Prop:=∀ ad,a=some ad→∃ cs t,w.heap[ad.block]?=some (.cells cs t (0,0))∧(t=3∨t=47)
theorem SN {w:World}{B n size c:Nat}{e:TypeId}{a:Option Addr}{xs:List Value}(h:w.ownsRow B e size (.slice a n c) n xs):∀ ad,a=some ad→∃ cs,w.heap[ad.block]?=some (.cells cs e (0,0)):=fun ad ha=>by
 rcases h.2 with⟨h1,_⟩ | ⟨g,cap,cur,h1,_,hh,_⟩
 ·cases h1;cases ha
 ·cases h1
  cases ha;exact⟨cur,hh⟩
theorem xm.on {w w':World}{a:Option Addr}(h:xm w a)(hb:Below w.heap.size w w'):xm w' a:=fun ad ha=>by
 obtain⟨cs,t,h1,h2⟩:=h ad ha;exact⟨cs,t,(hb.block _ (lt_of_block h1)).trans h1,h2⟩
theorem aa2 (B:Nat)(l:List Int)(a:Option Addr)(c:Nat)(w:World)(h:Hid (IntsIn B w l a))(hl:l.length≤4000) :
  Calls Tryz.prog 9 #[.slice a l.length c] w fun e w'=>∃ a' c',e=.returned (.slice a' l.length c')∧l.length≤c'∧IntsIn w'.heap.size w' l a'∧xm w' a'∧Below w.heap.size w w':=by
 obtain⟨i0,hi,hz0,hz1,hz2⟩:=Em Tryz.Nf;obtain⟨n,hn⟩:∃ n,n=l.length:=⟨_,rfl⟩;rw[← hn];have HN:=hide hn;have hn2:n≤4000:=by omega
 clear hn;go_enter Tryz.func9,Tryz.ntmps9
 go_wp2_with (at_builtin;refine Io rfl _ _ 37 rfl w.heap.size 3 i0 (.int .i64 0) 1 8 Tryz.underlying37 hi hz0 hz1 hz2 rfl (by decide) _ _ _ rfl (Gp w _ _ _) a n c (ints l) rfl (fun e=>by rw[HN.out];exact aaV h.out e) (by rw[HN.out];simp) (aaT h.out) (aaU l) (by unfold maxLen;omega) (by omega) (Nat.le_refl _) ?_;intro v w' hown hgr)
 obtain⟨a',c',hv,hc,hr⟩:=yX hown;rw[Nat.zero_add] at hv hc hr;have HE:Hid (n≤c'∧IntsIn w'.heap.size w' l a'∧xm w' a'∧Below w.heap.size w w'):=by
  refine⟨hc,?_,fun ad ha=>?_,Ng hgr⟩;rotate_left
  ·rw[hv,Nat.zero_add] at hown
   obtain⟨cs,hcs⟩:=SN hown ad ha;exact⟨cs,_,hcs,.inl rfl⟩
  by_cases h0:0<n
  ·obtain⟨g,cur,rfl,_,hh,ht,_⟩:=hr h0
   exact aaZ hh (by rw[← HN.out];simpa using ht) (aa0 h.out)
  ·have:l=[]:=List.eq_nil_of_length_eq_zero (by rw[← HN.out];omega)
   rw[this];exact fun i x hx=>by simp at hx
 subst hv;clear hown hgr hr hc;go_ret
 exact⟨_,_,rfl,HE.out⟩
theorem aa3 (B:Nat)(l:List Bx)(a:Option Addr)(c:Nat)(w:World)(h:Hid (xw B w l a))(hl:l.length≤4000) :
  Calls Tryz.prog 8 #[.slice a l.length c] w fun e w'=>∃ a' c',e=.returned (.slice a' l.length c')∧xw w'.heap.size w' l a'∧(∀ ad,a'=some ad→∃ cs,w'.heap[ad.block]?=some (.cells cs 36 (0,0)))∧Below w.heap.size w w':=by
 obtain⟨i0,hi,hz0,hz1,hz2⟩:=Em Tryz.aaM;obtain⟨n,hn⟩:∃ n,n=l.length:=⟨_,rfl⟩;rw[← hn];have HN:=hide hn;have hn2:n≤4000:=by omega
 clear hn;go_enter Tryz.func8,Tryz.ntmps8
 go_wp2_with (at_builtin;refine Io rfl _ _ 22 rfl w.heap.size 36 i0 (.agg #[.int .i64 0,.int .i64 0]) 2 16 Tryz.underlying22 hi hz0 hz1 hz2 rfl (by decide) _ _ _ rfl (Gp w _ _ _) a n c (l.flatMap Fy) rfl (fun e=>by rw[HN.out];exact aaW h.out e) (by rw[HN.out];exact Nb Fy 2 (fun _=>rfl) l) (aaO h.out) (aaQ l) (by unfold maxLen;omega) (by omega) (Nat.le_refl _) ?_;intro v w' hown hgr)
 obtain⟨a',c',hv,hc,hr⟩:=yX hown;rw[Nat.zero_add] at hv hc hr;have HE:Hid (xw w'.heap.size w' l a'∧(∀ ad,a'=some ad→∃ cs,w'.heap[ad.block]?=some (.cells cs 36 (0,0)))∧Below w.heap.size w w'):=by
  refine⟨?_,fun ad ha=>?_,Ng hgr⟩;rotate_left
  ·rw[hv,Nat.zero_add] at hown
   exact SN hown ad ha
  by_cases h0:0<n
  ·obtain⟨g,cur,rfl,_,hh,ht,_⟩:=hr h0
   exact aaS hh (by rw[← HN.out];simpa using ht) (aa1 h.out)
  ·have:l=[]:=List.eq_nil_of_length_eq_zero (by rw[← HN.out];omega)
   rw[this];exact fun i x hx=>by simp at hx
 subst hv;clear hown hgr hr hc;go_ret
 exact⟨_,_,rfl,HE.out⟩
theorem aa4 (B:Nat)(l:List Ins)(a:Option Addr)(c:Nat)(w:World)(h:Hid (aV B w l a))(hl0:0<l.length)(hl:l.length≤4000) :
  Calls Tryz.prog 36 #[.slice a l.length c] w fun e w'=>∃ g c',e=.returned (.slice (some ⟨g,0,none⟩) l.length c')∧l.length≤c'∧c'≤9223372036854775807∧w.heap.size≤g∧aV w'.heap.size w' l (some ⟨g,0,none⟩)∧jk w' g 47 (c' * 3)∧Below w.heap.size w w':=by
 obtain⟨i0,hi,hz0,hz1,hz2⟩:=Em Tryz.SH;obtain⟨n,hn⟩:∃ n,n=l.length:=⟨_,rfl⟩;rw[← hn];have HN:=hide hn;have hn2:n≤4000:=by omega
 have hn3:0<n:=by omega
 clear hn;go_enter Tryz.func36,Tryz.ntmps36
 go_wp2_with (at_builtin;refine Io rfl _ _ 38 rfl w.heap.size 47 i0 (.agg #[.int .i64 0,.int .i64 0,.int .i64 0]) 3 24 Tryz.underlying38 hi hz0 hz1 hz2 rfl (by decide) _ _ _ rfl (Gp w _ _ _) a n c (l.flatMap tQ) rfl (fun e=>by rw[HN.out];exact aaX h.out e) (by rw[HN.out];exact Nb tQ 3 (fun _=>rfl) l) (fun ad e=>by subst e;obtain⟨b,off,rfl⟩:=aaY h.out hl0;exact aaP h.out) (aaR l) (by unfold maxLen;omega) (by omega) (Nat.le_refl _) ?_;intro v w' hown hgr)
 obtain⟨a',c',hv,hc,hr⟩:=yX hown;rw[Nat.zero_add] at hv hc hr;obtain⟨g,cur,rfl,hg,hh,ht,hcl,hcm⟩:=hr hn3;have HE:Hid (n≤c'∧c'≤9223372036854775807∧w.heap.size≤g∧aV w'.heap.size w' l (some ⟨g,0,none⟩)∧jk w' g 47 (c' * 3)∧Below w.heap.size w w') :=
  ⟨hc,by unfold maxLen at hcm;omega,hg,SL hh (by rw[← HN.out];simpa using ht) (MV h.out),⟨_,hh,by simpa using hcl⟩,Ng hgr⟩
 subst hv;clear hown hgr hr hc hh ht hcl hcm hg;go_ret
 exact⟨_,_,rfl,HE.out⟩
theorem lD {a b:World}{k:Nat}{o:Obj}(h:Below a.heap.size a b)(hk:a.heap[k]?=some o):b.heap[k]?=some o:=(h.block k (lt_of_block hk)).trans hk
theorem yY (w:World)(o p:Obj):((w.alloc o).alloc p).heap[w.heap.size]?=some o:=(Below.heap_alloc _ _ _ (by simp)).trans (heap_alloc_new _ _)
theorem yZ (w:World)(o p:Obj):((w.alloc o).alloc p).heap[w.heap.size+1]?=some p:=by
 have:=heap_alloc_new (w.alloc o) p;rw[show (w.alloc o).heap.size=w.heap.size+1 by simp] at this;exact this
structure SQ (l:List Ins) (w:World) (P:Nat) (w':World):Prop where
 all:∃ lo hi w0 g cap R M W fs,vI lo hi w0 P g l.length cap R M W l.length fs (fun _=>false) w'∧Ap lo hi P g M W∧Fw g cap W l.length w'.heap.size l w'∧g<w'.heap.size∧l.length≤cap∧cap≤9223372036854775807∧w.heap.size≤P∧w.heap.size≤g∧w.heap.size≤M∧w.heap.size≤W
 below:Below w.heap.size w w'
theorem zH {l:List Ins}{w X1 w1 X2 w2 wE:World}{n g cap R M W P:Nat}{fs:List (Nat × Array Value)}(hn:n=l.length)(hc1:n≤cap)(hc2:cap≤9223372036854775807)(hg:X1.heap.size≤g)(hC:aV w1.heap.size w1 l (some ⟨g,0,none⟩))(xH:jk w1 g 47 (cap * 3))(hRl:G5 X2.heap.size w2.heap.size w2 R fs)
  (bw:Below w.heap.size w wE) (b1:Below w1.heap.size w1 wE) (b2:Below w2.heap.size w2 wE) (hM:wE.heap[M]?=some (.map #[] 0)) (hW:wE.heap[W]?=some (.cells (madeCells #[.int .i64 0] n) 3 (0,0))) (hP:P=wE.heap.size)
  (s1:w.heap.size≤X1.heap.size) (sM:w.heap.size≤M) (sW:w.heap.size≤W) (aM:M<X2.heap.size∨w2.heap.size≤M) (aW:W<X2.heap.size∨w2.heap.size≤W) (aG:w1.heap.size≤X2.heap.size):SQ l w P (wE.alloc (BP g n cap R M W n)):=by
 subst hP;have hgl:=xH.lt;have l1:=b1.size;have l2:=b2.size;have lM:=lt_of_block hM;have lW:=lt_of_block hW;have M3:M≠W:=fun e=>by subst e;rw[hM] at hW;cases hW
 have gE:wE.heap[g]?=w1.heap[g]?:=b1.block g hgl;obtain⟨cur,Kr,hcz⟩:=xH.keep gE;have hgM:g≠M:=fun e=>by subst e;rw[hM] at Kr;cases Kr
 have hgW:g≠W:=fun e=>by
  subst e;rw[hW] at Kr;simp at Kr
 have bE:=fG wE (BP g n cap R M W n);have zE:(wE.alloc (BP g n cap R M W n)).heap.size=wE.heap.size+1:=by simp
 rw[hn] at hc1 hW ⊢;rw[hn] at bE zE;have hR2:=hRl.at';refine⟨⟨X2.heap.size,w2.heap.size,w2,g,cap,R,M,W,fs,⟨heap_alloc_new _ _,hRl,fun j h1 h2=>(bE.block j (by omega)).trans (b2.block j h2),⟨#[],0,(bE.block M lM).trans hM,fun _ h=>(by cases h),fun _=>⟨fun _=>rfl,fun h=>(by cases h)⟩⟩,by omega⟩,⟨by omega,by omega,by omega,hgM,hgW,M3,.inr l2,.inl (by omega),aM,aW⟩,⟨?_,xH.keep ((bE.block g (by omega)).trans gE),⟨_,(bE.block W lW).trans hW,size_madeCells _ _⟩⟩,by omega,hc1,hc2,bw.size,by omega,sM,sW⟩,bw.trans (bE.mono bw.size)⟩;have h1:=xG hC ((bE.block g (by omega)).trans gE);intro i x hx;obtain⟨a1,a2,a3,b,o,e,hb,c0⟩:=h1 i x hx;exact⟨a1,a2,a3,b,o,e,by omega,c0⟩
theorem aa7 (B:Nat)(l:List Ins)(a:Option Addr)(c:Nat)(w:World)(h:Hid (aV B w l a))(hB:B≤w.heap.size)(hl0:0<l.length)(hl:l.length≤4000) :
  Calls Tryz.prog 21 #[.slice a l.length c] w fun e w'=>∃ P,e=.returned (.pointer (some ⟨P,0,none⟩))∧SQ l w P w':=by
 obtain⟨n,hn⟩:∃ n,n=l.length:=⟨_,rfl⟩;rw[← hn];have HN:=hide hn;have n1:(n:Int)≤4000:=by omega
 have n0:(0:Int)≤(n:Int):=by omega
 clear hn;have hmk:∀ X:World,Sem.run Tryz.prog (Instr.makeSlice 37 (.int .i64 (n:Int)) (.int .i64 (n:Int))) X=.ok (.slice (some ⟨X.heap.size,0,none⟩) n n) (X.alloc (.cells (madeCells #[.int .i64 0] n) 3)):=fun X=>by
  obtain⟨i0,hi,z0,z1,z2⟩:=Em Tryz.Nf;have:=run_makeSlice (P:=Tryz.prog) X 37 3 i0 _ Tryz.underlying37 hi z0 .i64 .i64 (n:Int) (n:Int) (by omega) (Int.le_refl _) (by rw[z1];simp;omega) (by rw[z2];omega) (by omega);rw[z1,Int.toNat_natCast,Nat.mul_one] at this;exact this
 have hmm:∀ X:World,Sem.run Tryz.prog (Instr.makeMap mt Option.none) X=.ok (.map (some X.heap.size)) (X.alloc (.map #[] 0)):=fun _=>rfl;have HB0:Hid (Below w.heap.size w w.drew):=Below.drew (Below.refl _ _);have HB1:Hid (∀ o,Below w.heap.size w (w.alloc o).drew):=fun o=>Below.drew (fG _ _);have HB2:Hid (∀ o p,Below w.heap.size w ((w.alloc o).alloc p).drew):=fun o p=>Below.drew (vY _ _ _);have Kt:Hid (∀ X,Below w.heap.size w X→Calls Tryz.prog 36 #[.slice a n c] X fun e w'=>∃ g c',e=.returned (.slice (some ⟨g,0,none⟩) n c')∧n≤c'∧c'≤9223372036854775807∧X.heap.size≤g∧aV w'.heap.size w' l (some ⟨g,0,none⟩)∧jk w' g 47 (c' * 3)∧Below X.heap.size X w'):=fun X hX=>by
  rw[HN.out];exact aa4 B l a c X (hide (RQ h.out hB hX)) hl0 hl
 go_enter Tryz.func21,Tryz.ntmps21
 go_wp2
 go_region_with (first | (go_at_call 36;refine (Kt.out _ (by first | exact HB0.out | exact HB1.out _ | exact HB2.out _ _)).mono ?_;rintro e w1 ⟨g,cap,rfl,hc1,hc2,hg,hC,xH,hb1⟩) | (go_at_call 37;refine (Wz _).mono ?_;rintro e w2 ⟨R,fs,rfl,hRl,hb2⟩))
 ·have l1:=hb1.size
  have l2:=hb2.size;simp only[World.size_drew] at l1 l2;go_wp2
  go_ret
  exact⟨_,rfl,zH HN.out hc1 hc2 hg hC xH hRl (az HB0.out (az hb1 (az (Below.refl _ _) (az hb2 (vY _ _ _))))) (az (Below.refl _ _) (az hb2 (vY _ _ _))) (vY _ _ _) (yY _ _ _) (yZ _ _ _) (by simp) (by first | (simp;done) | (simp;omega) | omega) (by first | (simp;done) | (simp;omega) | omega) (by first | (simp;done) | (simp;omega) | omega) (by first | (simp;done) | (simp;omega) | omega) (by first | (simp;done) | (simp;omega) | omega) (by first | (simp;done) | (simp;omega) | omega)⟩
 ·have l1:=hb1.size
  have l2:=hb2.size;simp only[World.size_drew] at l1 l2;go_wp2
  go_ret
  exact⟨_,rfl,zH HN.out hc1 hc2 hg hC xH hRl (az HB0.out (az hb1 (az (Below.refl _ _) (az hb2 (vY _ _ _))))) (az (Below.refl _ _) (az hb2 (vY _ _ _))) (vY _ _ _) (yZ _ _ _) (yY _ _ _) (by simp) (by first | (simp;done) | (simp;omega) | omega) (by first | (simp;done) | (simp;omega) | omega) (by first | (simp;done) | (simp;omega) | omega) (by first | (simp;done) | (simp;omega) | omega) (by first | (simp;done) | (simp;omega) | omega) (by first | (simp;done) | (simp;omega) | omega)⟩
 ·have l1:=hb1.size
  have l2:=hb2.size;simp only[World.size_drew,World.size_alloc] at l1 l2;go_wp2
  go_ret
  exact⟨_,rfl,zH HN.out hc1 hc2 hg hC xH hRl (az HB0.out (az hb1 (az (fG _ _) (az hb2 (fG _ _))))) (az (fG _ _) (az hb2 (fG _ _))) (fG _ _) (lD (az hb2 (fG _ _)) (heap_alloc_new _ _)) (heap_alloc_new _ _) (by simp) (by first | (simp;done) | (simp;omega) | omega) (by first | (simp;done) | (simp;omega) | omega) (by first | (simp;done) | (simp;omega) | omega) (by first | (simp;done) | (simp;omega) | omega) (by first | (simp;done) | (simp;omega) | omega) (by first | (simp;done) | (simp;omega) | omega)⟩
 ·have l1:=hb1.size
  have l2:=hb2.size;simp only[World.size_drew,World.size_alloc] at l1 l2;go_wp2
  go_ret
  exact⟨_,rfl,zH HN.out hc1 hc2 hg hC xH hRl (az HB0.out (az hb1 (az (vY _ _ _) (az hb2 (Below.refl _ _))))) (az (vY _ _ _) (az hb2 (Below.refl _ _))) (Below.refl _ _) (lD (az hb2 (Below.refl _ _)) (yY _ _ _)) (lD (az hb2 (Below.refl _ _)) (yZ _ _ _)) (by simp) (by first | (simp;done) | (simp;omega) | omega) (by first | (simp;done) | (simp;omega) | omega) (by first | (simp;done) | (simp;omega) | omega) (by first | (simp;done) | (simp;omega) | omega) (by first | (simp;done) | (simp;omega) | omega) (by first | (simp;done) | (simp;omega) | omega)⟩
 ·have l1:=hb1.size
  have l2:=hb2.size;simp only[World.size_drew,World.size_alloc] at l1 l2;go_wp2
  go_ret
  exact⟨_,rfl,zH HN.out hc1 hc2 hg hC xH hRl (az HB0.out (az hb1 (az (fG _ _) (az hb2 (fG _ _))))) (az (fG _ _) (az hb2 (fG _ _))) (fG _ _) (heap_alloc_new _ _) (lD (az hb2 (fG _ _)) (heap_alloc_new _ _)) (by simp) (by first | (simp;done) | (simp;omega) | omega) (by first | (simp;done) | (simp;omega) | omega) (by first | (simp;done) | (simp;omega) | omega) (by first | (simp;done) | (simp;omega) | omega) (by first | (simp;done) | (simp;omega) | omega) (by first | (simp;done) | (simp;omega) | omega)⟩
 ·have l1:=hb1.size
  have l2:=hb2.size;simp only[World.size_drew,World.size_alloc] at l1 l2;go_wp2
  go_ret
  exact⟨_,rfl,zH HN.out hc1 hc2 hg hC xH hRl (az HB0.out (az hb1 (az (vY _ _ _) (az hb2 (Below.refl _ _))))) (az (vY _ _ _) (az hb2 (Below.refl _ _))) (Below.refl _ _) (lD (az hb2 (Below.refl _ _)) (yZ _ _ _)) (lD (az hb2 (Below.refl _ _)) (yY _ _ _)) (by simp) (by first | (simp;done) | (simp;omega) | omega) (by first | (simp;done) | (simp;omega) | omega) (by first | (simp;done) | (simp;omega) | omega) (by first | (simp;done) | (simp;omega) | omega) (by first | (simp;done) | (simp;omega) | omega) (by first | (simp;done) | (simp;omega) | omega)⟩
 ·have l1:=hb1.size
  have l2:=hb2.size;simp only[World.size_drew,World.size_alloc] at l1 l2;go_wp2
  go_ret
  exact⟨_,rfl,zH HN.out hc1 hc2 hg hC xH hRl (az (HB1.out _) (az hb1 (az (Below.refl _ _) (az hb2 (fG _ _))))) (az (Below.refl _ _) (az hb2 (fG _ _))) (fG _ _) (lD (az hb1 (az (Below.refl _ _) (az hb2 (fG _ _)))) (heap_alloc_new _ _)) (heap_alloc_new _ _) (by simp) (by first | (simp;done) | (simp;omega) | omega) (by first | (simp;done) | (simp;omega) | omega) (by first | (simp;done) | (simp;omega) | omega) (by first | (simp;done) | (simp;omega) | omega) (by first | (simp;done) | (simp;omega) | omega) (by first | (simp;done) | (simp;omega) | omega)⟩
 ·have l1:=hb1.size
  have l2:=hb2.size;simp only[World.size_drew,World.size_alloc] at l1 l2;go_wp2
  go_ret
  exact⟨_,rfl,zH HN.out hc1 hc2 hg hC xH hRl (az (HB1.out _) (az hb1 (az (fG _ _) (az hb2 (Below.refl _ _))))) (az (fG _ _) (az hb2 (Below.refl _ _))) (Below.refl _ _) (lD (az hb1 (az (fG _ _) (az hb2 (Below.refl _ _)))) (heap_alloc_new _ _)) (lD (az hb2 (Below.refl _ _)) (heap_alloc_new _ _)) (by simp) (by first | (simp;done) | (simp;omega) | omega) (by first | (simp;done) | (simp;omega) | omega) (by first | (simp;done) | (simp;omega) | omega) (by first | (simp;done) | (simp;omega) | omega) (by first | (simp;done) | (simp;omega) | omega) (by first | (simp;done) | (simp;omega) | omega)⟩
 ·have l1:=hb1.size
  have l2:=hb2.size;simp only[World.size_drew,World.size_alloc] at l1 l2;go_wp2
  go_ret
  exact⟨_,rfl,zH HN.out hc1 hc2 hg hC xH hRl (az (HB2.out _ _) (az hb1 (az (Below.refl _ _) (az hb2 (Below.refl _ _))))) (az (Below.refl _ _) (az hb2 (Below.refl _ _))) (Below.refl _ _) (lD (az hb1 (az (Below.refl _ _) (az hb2 (Below.refl _ _)))) (yY _ _ _)) (lD (az hb1 (az (Below.refl _ _) (az hb2 (Below.refl _ _)))) (yZ _ _ _)) (by simp) (by first | (simp;done) | (simp;omega) | omega) (by first | (simp;done) | (simp;omega) | omega) (by first | (simp;done) | (simp;omega) | omega) (by first | (simp;done) | (simp;omega) | omega) (by first | (simp;done) | (simp;omega) | omega) (by first | (simp;done) | (simp;omega) | omega)⟩
 ·have l1:=hb1.size
  have l2:=hb2.size;simp only[World.size_drew,World.size_alloc] at l1 l2;go_wp2
  go_ret
  exact⟨_,rfl,zH HN.out hc1 hc2 hg hC xH hRl (az (HB1.out _) (az hb1 (az (Below.refl _ _) (az hb2 (fG _ _))))) (az (Below.refl _ _) (az hb2 (fG _ _))) (fG _ _) (heap_alloc_new _ _) (lD (az hb1 (az (Below.refl _ _) (az hb2 (fG _ _)))) (heap_alloc_new _ _)) (by simp) (by first | (simp;done) | (simp;omega) | omega) (by first | (simp;done) | (simp;omega) | omega) (by first | (simp;done) | (simp;omega) | omega) (by first | (simp;done) | (simp;omega) | omega) (by first | (simp;done) | (simp;omega) | omega) (by first | (simp;done) | (simp;omega) | omega)⟩
 ·have l1:=hb1.size
  have l2:=hb2.size;simp only[World.size_drew,World.size_alloc] at l1 l2;go_wp2
  go_ret
  exact⟨_,rfl,zH HN.out hc1 hc2 hg hC xH hRl (az (HB1.out _) (az hb1 (az (fG _ _) (az hb2 (Below.refl _ _))))) (az (fG _ _) (az hb2 (Below.refl _ _))) (Below.refl _ _) (lD (az hb2 (Below.refl _ _)) (heap_alloc_new _ _)) (lD (az hb1 (az (fG _ _) (az hb2 (Below.refl _ _)))) (heap_alloc_new _ _)) (by simp) (by first | (simp;done) | (simp;omega) | omega) (by first | (simp;done) | (simp;omega) | omega) (by first | (simp;done) | (simp;omega) | omega) (by first | (simp;done) | (simp;omega) | omega) (by first | (simp;done) | (simp;omega) | omega) (by first | (simp;done) | (simp;omega) | omega)⟩
 ·have l1:=hb1.size
  have l2:=hb2.size;simp only[World.size_drew,World.size_alloc] at l1 l2;go_wp2
  go_ret
  exact⟨_,rfl,zH HN.out hc1 hc2 hg hC xH hRl (az (HB2.out _ _) (az hb1 (az (Below.refl _ _) (az hb2 (Below.refl _ _))))) (az (Below.refl _ _) (az hb2 (Below.refl _ _))) (Below.refl _ _) (lD (az hb1 (az (Below.refl _ _) (az hb2 (Below.refl _ _)))) (yZ _ _ _)) (lD (az hb1 (az (Below.refl _ _) (az hb2 (Below.refl _ _)))) (yY _ _ _)) (by simp) (by first | (simp;done) | (simp;omega) | omega) (by first | (simp;done) | (simp;omega) | omega) (by first | (simp;done) | (simp;omega) | omega) (by first | (simp;done) | (simp;omega) | omega) (by first | (simp;done) | (simp;omega) | omega) (by first | (simp;done) | (simp;omega) | omega)⟩
def Ip (w:World)(P:Nat):Nat:=match w.cell? ⟨P,0,none⟩ with
 | some (.slice _ n _)=>n
 | _=>0
theorem SS {w:World}{P g n cap R M W n0:Nat}(h:w.heap[P]?=some (BP g n cap R M W n0)):Ip w P=n:=by
 unfold Ip;rw[(yL h).1]
theorem aa8 {w w1 w':World}{P g M W:Nat}(h:Below w.heap.size w w1)(hc:kY (Sg P g M W) w1 w')(hP:w.heap.size≤P)(hg:w.heap.size≤g)(hM:w.heap.size≤M)(hW:w.heap.size≤W):Below w.heap.size w w' :=
 ⟨hc.os.trans h.os,hc.tape.trans h.tape,hc.output.trans h.output,Nat.le_trans h.size hc.size,fun k hk=>(hc.block k (Nat.lt_of_lt_of_le hk h.size) (fun e=>by rcases e with e | e | e | e<;>omega)).trans (h.block k hk)⟩
theorem Iq {B C:Nat}{w:World}{l:List Ins}{a:Option Addr}(h:aV B w l a)(hB:B≤C):aV C w l a:=fun i x hx=>by
 obtain⟨h1,h2,h3,b,o,e,hb,c0⟩:=h i x hx;exact⟨h1,h2,h3,b,o,e,by omega,c0⟩
theorem aa9 (B:Nat)(l:List Ins)(a:Option Addr)(c:Nat)(w:World)(h:Hid (aV B w l a))(hB:B≤w.heap.size)(hl0:0<l.length)(hl:l.length≤4000)(hj:Hid (yI l)) :
  Calls Tryz.prog 10 #[.slice a l.length c] w fun e w'=>∃ g cap,e=.returned (.slice (some ⟨g,0,none⟩) (short l).length cap)∧(short l).length≤cap∧aV w'.heap.size w' (short l) (some ⟨g,0,none⟩)∧xm w' (some ⟨g,0,none⟩)∧Below w.heap.size w w':=by
 go_enter Tryz.func10,Tryz.ntmps10
 go_wp2_with fail
 refine (aa7 B l a c w h hB hl0 hl).mono ?_;rintro e w1 ⟨P,rfl,Nh⟩;obtain⟨lo,hi,w0,g,cap,R,M,W,fs,hp,ha,hc,hgB,hc1,hc2,sP,sg,sM,sW⟩:=Nh.all;have uE:=hide hp;have HA:=hide ha;have Il:=hide hc;have HB1:=hide Nh.below;have HGB:=hide hgB;clear hp ha hc Nh hgB;go_wp2
 go_loopw [] (fun wr=>∃ (l':List Ins) (f:Nat) (jw:Nat→Bool),short l=shorter (f+1) l'∧l'.length≤f+1∧0<l'.length∧l'.length≤l.length∧yI l'∧vI lo hi w0 P g l'.length cap R M W l.length fs jw wr∧Fw g cap W l.length w1.heap.size l' wr∧kY (Sg P g M W) w1 wr) (fun wr=>Ip wr P)
 case atStart=>exact⟨l,l.length - 1,fun _=>false,by unfold short;rw[show l.length - 1+1=l.length by omega],by omega,hl0,Nat.le_refl _,hj.out,uE.out,Il.out,kY.refl _ _⟩
 case round =>
  obtain⟨l',f,jw,h1,h2,h3,h4,h5,h6,h7,h8⟩:=hrel;have H1:=hide h1;have H6:=hide h6;have H8:=hide h8;have hov:=aan lo hi w0 P g cap R M W l.length w1.heap.size fs l' jw wr (hide h6) HA (hide h7) h8.size HGB.out h3 h4 hl ⟨hc1,hc2⟩ (hide h5);obtain⟨b,hb⟩:∃ b,b=decide ((over l').length<l'.length):=⟨_,rfl⟩;rw[← hb] at hov;have SV:=hide hov;have En:=hide hb;have HJ:=hide h5;clear h1 h5 h6 h7 h8 hov hb;go_wp2_with fail
  refine SV.out.mono ?_;rintro e w2 ⟨rfl,hp2,hc2',SX⟩;have vM:=hide hp2;have zY:=hide hc2';have Fu:=hide (H8.out.trans SX);clear hp2 hc2' SX SV;cases b with
  | true =>
   have hlt:(over l').length<l'.length:=of_decide_eq_true En.out.symm;have hpos:=GU h3;have HS:Hid (short l=shorter f (over l')):=by
    unfold Hid;rw[H1.out,shorter,if_pos hlt]
   have HM:Hid (Ip w2 P<Ip wr P):=by unfold Hid;rw[SS vM.out.ps,SS H6.out.ps];exact hlt
   obtain⟨f',rfl⟩:∃ f',f=f'+1:=⟨f - 1,by omega⟩;go_wp2
   go_roundw
   case rel=>exact⟨over l',f',lg l',HS.out,by omega,hpos,by omega,RL HJ.out,vM.out,zY.out,Fu.out⟩
   case measure=>exact HM.out
  | false =>
   have hlt:¬ (over l').length<l'.length:=of_decide_eq_false En.out.symm;have hle:=Ls l';have HS:Hid (short l=over l'):=by
    unfold Hid;rw[H1.out,shorter,if_neg hlt]
   obtain⟨q0,_,_,_⟩:=yL vM.out.ps;obtain⟨n,hn⟩:∃ n,n=(over l').length:=⟨_,rfl⟩;rw[← hn] at q0;have HE:Hid (n≤cap∧aV w2.heap.size w2 (short l) (some ⟨g,0,none⟩)∧xm w2 (some ⟨g,0,none⟩)∧Below w.heap.size w w2∧(short l).length=n):=by
    refine⟨by omega,by rw[HS.out];exact Iq zY.out.code Fu.out.size,fun ad ha=>(by cases ha;obtain⟨cur,h1,_⟩:=zY.out.blk;exact⟨cur,_,h1,.inr rfl⟩),aa8 HB1.out Fu.out sP sg sM sW,by rw[HS.out,hn]⟩
   clear hlt hle hn;go_wp2
   go_ret
   obtain⟨e1,e2,e3,e4,e5⟩:=HE.out;exact⟨g,cap,by rw[e5];rfl,by rw[e5];exact e1,e2,e3,e4⟩
end Go.Proofs.YtbdpdjcdhclbfaaGreat.Ow
