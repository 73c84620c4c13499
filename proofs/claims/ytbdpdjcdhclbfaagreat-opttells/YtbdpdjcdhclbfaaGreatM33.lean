/- The document's answer,chapter 7: what holds in the loop over what comes next. -/
import Derived.Test.YtbdpdjcdhclbfaaGreatM32
set_option maxRecDepth 100000
set_option maxHeartbeats 8000000
namespace Go.Proofs.YtbdpdjcdhclbfaaGreat
open Go.RowKit
abbrev KR (l:List Int):List Value:=l.map (fun x=>Value.int .i64 x)
structure L3 (c:FC) (kk AT NB C nn:Nat) (nv:Value) (gs:List Int) (k:Vf.Kn) (w:World) (s:Vf.S) (rv:Value) (j:Nat) (W:World):Prop where
 cd:uN c kk w W
 se:jv (w.heap.size+1+1+1+1) c.u.locals.length c.u.code.length (w.heap.size+1+1+1+1) (Vf.cm c.u.locals.length s.come) nv.ownBlock W
 now:BR W C nv (Vf.bl c.u.locals.length k.fl)
 q:QR W (w.heap.size+1+1+1+1) rv s.row
 qa:rv.ownBlock≠some AT
 qn:rv.ownBlock≠some NB
 ab:W.heap[AT]?=some (kO nn)
 nb:gs≠[]→W.heap[NB]?=some (.cells (List.toArray (KR gs)) 3 (0,0))
 ha:w.heap.size+1+1+1+1≤AT
 inv:Inv c.m c.u s
 sQ:Vf.Ex c.u.locals.length s
 few:s.row.length≤90000000+j
 le:j≤gs.length
theorem L3.nlt {c:FC}{kk AT NB C nn:Nat}{nv:Value}{gs:List Int}{k:Vf.Kn}{w:World}{s:Vf.S}{rv:Value}{j:Nat}{W:World}(h:L3 c kk AT NB C nn nv gs k w s rv j W):∀ g,nv.ownBlock=some g→g<W.heap.size:=fun g hg=>by
 obtain⟨_,cs,hb⟩:=A7 h.now hg;exact lt_of_block hb
theorem L3.copy {c:FC}{kk AT NB C nn:Nat}{nv:Value}{gs:List Int}{k:Vf.Kn}{w:World}{s:Vf.S}{rv:Value}{j:Nat}{W W2:World}(h:L3 c kk AT NB C nn nv gs k w s rv j W)(hg:W.grownBy W2 none):L3 c kk AT NB C nn nv gs k w s rv j W2 :=
 ⟨h.cd.next hg,h.se.grown hg,vT h.now hg,h.q.keep (fun b hb=>aC hg (h.q.lt b hb).2),h.qa,h.qn,(aC hg (lt_of_block h.ab)).trans h.ab,fun hn=>(aC hg (lt_of_block (h.nb hn))).trans (h.nb hn),h.ha,h.inv,h.sQ,h.few,h.le⟩
theorem FI {w:World}{B N:Nat}{v:Value}{ws:List Nat}(h:QR w B v ws)(hN:v.ownBlock=some N):∃ cs,w.heap[N]?=some (Obj.cells cs 3 (0,0)):=by
 rcases h with⟨rfl,_⟩ | ⟨g,off,cap,cs,rfl,hB,hh,r⟩
 ·cases hN
 ·cases hN
  exact⟨_,hh⟩
theorem jv.row {B n len SB B':Nat}{come:Nat→Option (List Int × List Bool)}{X:Option Nat}{w w':World}{v:Value}{ws:List Nat}(h:jv B n len SB come X w)(hq:QR w B' v ws)(hg:w.grownBy w' v.ownBlock):jv B n len SB come X w':=by
 cases hv:v.ownBlock with
 | none=>rw[hv] at hg;exact h.grown hg
 | some N =>
  rw[hv] at hg;obtain⟨cs,hb⟩:=FI hq hv;exact h.other hg hb (fun _ e=>by cases e) (fun _ e=>by cases e)
theorem acs {C B':Nat}{w w':World}{v nv:Value}{l:List Bool}{ws:List Nat}(h:BR w C nv l)(hq:QR w B' v ws)(hg:w.grownBy w' v.ownBlock):BR w' C nv l :=
 Gy h (fun g cs _ hc=>hg.block g (lt_of_block hc) (fun e=>by
  obtain⟨cs',hb⟩:=FI hq e.symm;rw[hc] at hb;cases hb))
theorem L3.row {c:FC}{kk AT NB C nn tn:Nat}{nv v':Value}{gs:List Int}{k kn:Vf.Kn}{w:World}{s:Vf.S}{rv:Value}{j:Nat}{W W3 w5:World}{o:Obj}(h:L3 c kk AT NB C nn nv gs k w s rv j W)(hcd:uN c kk w W3)
  (hse:jv (w.heap.size+1+1+1+1) c.u.locals.length c.u.code.length (w.heap.size+1+1+1+1) (Vf.cm c.u.locals.length (s.note tn kn).come) nv.ownBlock W3) (M0:BR W3 C nv (Vf.bl c.u.locals.length k.fl))
  (hint:∀ (b:Nat) cs,W.heap[b]?=some (Obj.cells cs 3 (0,0))→W3.heap[b]?=W.heap[b]?) (hq:QR w5 (w.heap.size+1+1+1+1) v' (s.row++[tn])) (hg:(W3.alloc o).grownBy w5 rv.ownBlock) (hj:∀ b,v'.ownBlock=some b→rv.ownBlock=some b∨(W3.alloc o).heap.size≤b)
  (hinv:Inv c.m c.u (s.note tn kn)) (acu:Vf.Ex c.u.locals.length (s.note tn kn)) (hjl:j<gs.length):L3 c kk AT NB C nn nv gs k w (s.note tn kn) v' (j+1) w5:=by
 have hq3:QR W3 (w.heap.size+1+1+1+1) rv s.row:=h.q.keep (fun b hb=>by
  obtain⟨cs,hb'⟩:=FI h.q hb;exact hint b cs hb')
 have hq4:QR (W3.alloc o) (w.heap.size+1+1+1+1) rv s.row:=hq3.alloc o;have Uo:W3.heap[AT]?=some (kO nn):=(hint AT _ h.ab).trans h.ab;have Oq:(W3.alloc o).heap[AT]?=some (kO nn):=(Below.heap_alloc _ _ _ (lt_of_block Uo)).trans Uo;have Ou:gs≠[]→(W3.alloc o).heap[NB]?=some (.cells (List.toArray (KR gs)) 3 (0,0)):=fun hn=>by
  have h3:=(hint NB _ (h.nb hn)).trans (h.nb hn);exact (Below.heap_alloc _ _ _ (lt_of_block h3)).trans h3
 refine⟨(hcd.new o).keep hg (fun N e=>(hq4.lt N e).1),(hse.grown (ai (World.grownBy.refl _ _) _)).row hq4 hg,acs (vT M0 (ai (World.grownBy.refl _ _) _)) hq4 hg,hq,fun e=>?_,fun e=>?_,(hg.block AT (lt_of_block Oq) (fun e=>h.qa e.symm)).trans Oq,fun hn=>(hg.block NB (lt_of_block (Ou hn)) (fun e=>h.qn e.symm)).trans (Ou hn),h.ha,hinv,acu,?_,hjl⟩
 ·rcases hj AT e with h1 | h1
  ·exact h.qa h1
  ·have:=lt_of_block Oq
   omega
 ·rcases hj NB e with h1 | h1
  ·exact h.qn h1
  ·have:=lt_of_block (Ou (fun e=>by rw[e] at hjl;cases hjl))
   omega
 ·have:=h.few
  show (s.row++[tn]).length≤_
  simp;omega
theorem L3.l4 {c:FC}{kk AT NB C nn tn:Nat}{nv v:Value}{gs:List Int}{k t:Vf.Kn}{w:World}{s:Vf.S}{rv:Value}{j:Nat}{lb:Bool}{W W':World}(h:L3 c kk AT NB C nn nv gs k w s rv j W)(hl:L4 (w.heap.size+1+1+1+1) c.u.locals.length c.u.code.length (w.heap.size+1+1+1+1) tn C (Vf.cm c.u.locals.length s.come) nv.ownBlock t.st t.fl k.fl nv v W c.u.locals.length lb W')
  (hv:BR W (w.heap.size+1+1+1+1) v (Vf.bl c.u.locals.length t.fl)) :
  uN c kk w W'∧jv (w.heap.size+1+1+1+1) c.u.locals.length c.u.code.length (w.heap.size+1+1+1+1) (Vf.cm c.u.locals.length (s.note tn ⟨t.st,t.fl.both k.fl⟩).come) nv.ownBlock W'∧(∀ (b:Nat) cs,W.heap[b]?=some (Obj.cells cs 3 (0,0))→W'.heap[b]?=W.heap[b]?):=by
 refine⟨h.cd.keep hl.grown (fun N e=>(A7 hv e).1),?_,fun b cs hb=>hl.grown.block b (lt_of_block hb) (fun e=>?_)⟩
 ·rw[Vf.KQ,← Vf.acg]
  exact hl.se
 ·obtain⟨_,cs',hb'⟩:=A7 hv e.symm
  rw[hb] at hb';cases hb'
theorem L3.same {c:FC}{kk AT NB C nn tn:Nat}{nv v:Value}{gs:List Int}{k t:Vf.Kn}{w:World}{s:Vf.S}{rv:Value}{j:Nat}{lb:Bool}{W W':World}(h:L3 c kk AT NB C nn nv gs k w s rv j W)(hl:L4 (w.heap.size+1+1+1+1) c.u.locals.length c.u.code.length (w.heap.size+1+1+1+1) tn C (Vf.cm c.u.locals.length s.come) nv.ownBlock t.st t.fl k.fl nv v W c.u.locals.length lb W')
  (hv:BR W (w.heap.size+1+1+1+1) v (Vf.bl c.u.locals.length t.fl)) (ht:s.come tn=some t) (he:t.fl.both k.fl=t.fl) (hjl:j<gs.length):L3 c kk AT NB C nn nv gs k w s rv (j+1) W':=by
 obtain⟨h1,h2,h3⟩:=h.l4 hl hv;have e:Vf.cm c.u.locals.length (s.note tn ⟨t.st,t.fl.both k.fl⟩).come=Vf.cm c.u.locals.length s.come:=by
  funext i
  rw[Vf.KQ];unfold upd;by_cases hi:i=tn
  ·rw[if_pos hi,hi,Vf.sO ht,he]
  ·rw[if_neg hi]
 rw[e] at h2;exact⟨h1,h2,hl.now,h.q.keep (fun b hb=>by
  obtain⟨cs,hb'⟩:=FI h.q hb;exact h3 b cs hb'),h.qa,h.qn,(h3 AT _ h.ab).trans h.ab,fun hn=>(h3 NB _ (h.nb hn)).trans (h.nb hn),h.ha,h.inv,h.sQ,by have:=h.few;omega,hjl⟩
theorem L3.first {c:FC}{kk AT NB C nn tn:Nat}{nv v:Value}{gs:List Int}{k:Vf.Kn}{w:World}{s:Vf.S}{rv:Value}{j:Nat}{W w2:World}{sb:ByteArray}(h:L3 c kk AT NB C nn nv gs k w s rv j W)(hz:tn<c.u.code.length)(hsb:sb.data.toList=(k.st.map Vf.ag).reverse)(hg:W.grownBy w2 none)(hv:BR w2 W.heap.size v (Vf.bl c.u.locals.length k.fl)) :
  uN c kk w (((w2.setCell ⟨w.heap.size+1+1+1+1,tn * 3,none⟩ (.bool true)).setCell ⟨w.heap.size+1+1+1+1,tn * 3+1,none⟩ (.string sb)).setCell ⟨w.heap.size+1+1+1+1,tn * 3+2,none⟩ v) ∧
  jv (w.heap.size+1+1+1+1) c.u.locals.length c.u.code.length (w.heap.size+1+1+1+1) (Vf.cm c.u.locals.length (s.note tn k).come) nv.ownBlock (((w2.setCell ⟨w.heap.size+1+1+1+1,tn * 3,none⟩ (.bool true)).setCell ⟨w.heap.size+1+1+1+1,tn * 3+1,none⟩ (.string sb)).setCell ⟨w.heap.size+1+1+1+1,tn * 3+2,none⟩ v) ∧
  BR (((w2.setCell ⟨w.heap.size+1+1+1+1,tn * 3,none⟩ (.bool true)).setCell ⟨w.heap.size+1+1+1+1,tn * 3+1,none⟩ (.string sb)).setCell ⟨w.heap.size+1+1+1+1,tn * 3+2,none⟩ v) C nv (Vf.bl c.u.locals.length k.fl) ∧
  (∀ (b:Nat) cs,W.heap[b]?=some (Obj.cells cs 3 (0,0))→(((w2.setCell ⟨w.heap.size+1+1+1+1,tn * 3,none⟩ (.bool true)).setCell ⟨w.heap.size+1+1+1+1,tn * 3+1,none⟩ (.string sb)).setCell ⟨w.heap.size+1+1+1+1,tn * 3+2,none⟩ v).heap[b]?=W.heap[b]?):=by
 obtain⟨cs0,hS⟩:=h.se.blk;have hl:=h.cd.lt;refine⟨(((h.cd.next hg).set (Nat.le_refl _) _ _).set (Nat.le_refl _) _ _).set (Nat.le_refl _) _ _,?_,Gy (vT h.now hg) (fun g cs _ hc=>KP _ _ _ (fun e=>?_)),fun b cs hb=>(KP _ _ _ (fun e=>?_)).trans (aC hg (lt_of_block hb))⟩
 ·rw[Vf.KQ]
  exact h.se.put hg h.nlt (by omega) hz hv (Vf.iB _ _) hsb
 ·subst e
  rw[(aC hg (lt_of_block hS)).trans hS] at hc;cases hc
 ·subst e
  rw[hS] at hb;cases hb
theorem acv {len:Nat}{k:Vf.Kn}{gs:List Int}{j:Nat}{t:Int}{s:Vf.S}(h:gs[j]?=some t):Vf.jf len k (gs.drop j) s=Vf.andThen (Vf.sU len k t s) (Vf.jf len k (gs.drop (j+1))):=by
 obtain⟨hj,rfl⟩:=List.getElem?_eq_some_iff.1 h;rw[List.drop_eq_getElem_cons hj];rfl
theorem acw {w:World}{NB j:Nat}{gs:List Int}{t:Int}(h:w.heap[NB]?=some (.cells (List.toArray (KR gs)) 3 (0,0)))(hj:gs[j]?=some t):w.cell? ⟨NB,j,none⟩=some (.int .i64 t):=by
 simp[World.cell?,h,hj]
theorem acx {a b:List Int}(ha:∀ t ∈ a,Vf.jF t)(hb:∀ t ∈ b,Vf.jF t)(h:(a.map Vf.ag).reverse=(b.map Vf.ag).reverse):a=b:=by
 have h:=List.reverse_inj.1 h;induction a generalizing b with
 | nil=>cases b with
  | nil=>rfl
  | cons=>cases h
 | cons x a ih=>cases b with
  | nil=>cases h
  | cons y b =>
   simp only[List.map_cons,List.cons.injEq] at h;rw[Vf.I7 (ha x (by simp)) (hb y (by simp)) h.1,ih (fun t ht=>ha t (List.mem_cons_of_mem _ ht)) (fun t ht=>hb t (List.mem_cons_of_mem _ ht)) (by rw[h.2]) h.2]
theorem Uq {W:World}{u:Value}{t:TypeId}{q:Nat}(hq:q=W.heap.size):∀ j u',[u][j]?=some u'→(W.alloc (.cells #[u] t)).cell? ((⟨q,0,none⟩:Addr).add j)=some u':=by
 subst hq;exact JU W u t
theorem tC {w:World}{C n:Nat}{v:Value}{l:List Bool}(h:BR w C v l)(hl:l.length=n):∃ a c,v=.slice a n c:=by
 subst hl;rcases h.2 with⟨rfl,h0⟩ | ⟨g,cap,cur,rfl,_⟩
 ·exact⟨none,0,by rw[h0]⟩
 ·exact⟨_,_,rfl⟩
theorem acy {a b:ByteArray}(h:a.data.toList=b.data.toList):a=b:=by
 apply ByteArray.ext;exact Array.toList_inj.1 h
set_option maxRecDepth 1000000 in
theorem acz (t0 t1 t2 t7 t8 t11 t15 t16 t17 t18 t19 t20 t21 t22 t23 t24 t25 t26 t27 t28 t29 t30 t31 t32 t33 t34 t35 t36 t37 t38 t39 t40 t41 t42 t43 t44 t45 t46 t47 t48 t49 t50 t51 t52 t53 t54 t55 t56 t57 t58 t59 t60 t61 t62 t63 t64 t65 t66 t67 t68 t69 t70 t71 t72 t73 t74 t75 t76 t77 t78 t79 t80 t81 t82 t83 t84 t85 t86 t87 t88 t89 t90 t91 t92 t93 t94 t95 t96 t97 t98 t99 t100 t101 t102 t103 t104 t105 t106 t107 t108 t109 t110 t111 t112 t113 t114 t115 t116 t117 t118 t119 t120 t121 t122 t123 t124 t125 t126 t127 t128 t129 t130 t131 t132 t133 t134 t135 t136 t137 t138 t139 t140 t141 t142 t143 t144 t145 t146 t147 t148 t149 t150 t151 t152 t153 t154 t155 t156 t157 t158 t159 t160 t161 t162 t163 t164 aY aZ t167 t168 bf bg t171 bn t173 bz t175 bA bB bD bF bG bH t182 t183 bI bJ bK bL bM bN bO bP bQ t193 t194 bR t196 bS t198 bT bU t201 bV t203 bW bX t206 bY t208 bZ t210 cz t212 t213 cB cK cO cZ t218 df dh di t222 dm dn dw t226 t227 t228 t229 dx dz dB t236 dC dD dE dF dG dH dI dJ dK dL dM dN dO dP dQ dR dS dU dV dW dX dY dZ ed ek eu eB eD eF eG eH eO eP eQ eT eU eX eY eZ gW gX fI fJ fK fM fO fP fQ fT fU fV fZ gp gu gy gz gB gD gF gG gH gI gJ gK fq fw fA fB fC fD aL:Value)(c:FC)(kk AT NB C nn:Nat)(nv nx:Value)(sb:ByteArray)(gs:List Int)(k:Vf.Kn)(w:World)(D:Except Int Vf.S→Prop)(hsb:Hid (sb.data.toList=(k.st.map Vf.ag).reverse))(hks:Hid (aQ c.m k.st))(KS:Hid (Vf.tT c.u.locals.length k.fl))(hgs:Hid (∀ t ∈ gs,0≤t∧t≤c.u.code.length))(hnx:Hid (gs≠[]→nx=.slice (some ⟨NB,0,none⟩) gs.length gs.length))(hg2:gs.length≤2)(hz1:c.u.locals.length≤200)(hmu:c.m.units.length≤30)
  (s:Vf.S) (rv:Value) (j:Nat) (wr:World) (hL:Hid (L3 c kk AT NB C nn nv gs k w s rv j wr)) (hD:Hid (D (Vf.jf c.u.code.length k (gs.drop j) s))) (K:Act→World→Prop) (Q:Exit→Act→World→Prop)
  (hK:∀ (u24 u25 u26 u27 jG u236 jH jI jJ jK jL jM jN jO jP jQ jR jS jT jU jV jW jX jY jZ j5 j6 kg ko kr ku kv ky kz kC kD kE kF kG kH kI kJ kK kL kM kN jq iE iF iG iH iI iJ iK iL iM iN iO iP iQ iR iT iU iV iW iX iY iZ jb jc kP kQ kR kS kT kU:Value) (s:Vf.S) (rv:Value) (w':World),L3 c kk AT NB C nn nv gs k w s rv (j+1) w'→D (Vf.jf c.u.code.length k (gs.drop (j+1)) s)→j<gs.length→K ⟨#[t0,t1,t2,.pointer (some ⟨w.heap.size+1,0,none⟩),.pointer (some ⟨w.heap.size+1+1,0,none⟩),.pointer (some ⟨w.heap.size+1+1+1,0,none⟩),.slice (some ⟨w.heap.size+1+1+1+1,0,none⟩) c.u.code.length c.u.code.length,t7,t8,rv,.pointer (some ⟨AT,0,none⟩),t11,nv,.string sb,.func (.func 44) #[] #[.pointer (some ⟨w.heap.size+1,0,none⟩),.pointer (some ⟨AT,0,none⟩)],t15,t16,t17,t18,t19,t20,t21,t22,t23,u24,u25,u26,u27,t28,t29,t30,t31,t32,t33,t34,t35,t36,t37,t38,t39,t40,t41,t42,t43,t44,t45,t46,t47,t48,t49,t50,t51,t52,t53,t54,t55,t56,t57,t58,t59,t60,t61,t62,t63,t64,t65,t66,t67,t68,t69,t70,t71,t72,t73,t74,t75,t76,t77,t78,t79,t80,t81,t82,t83,t84,t85,t86,t87,t88,t89,t90,t91,t92,t93,t94,t95,t96,t97,t98,t99,t100,t101,t102,t103,t104,t105,t106,t107,t108,t109,t110,t111,t112,t113,t114,t115,t116,t117,t118,t119,t120,t121,t122,t123,t124,t125,t126,t127,t128,t129,t130,t131,t132,t133,t134,t135,t136,t137,t138,t139,t140,t141,t142,t143,t144,t145,t146,t147,t148,t149,t150,t151,t152,t153,t154,t155,t156,t157,t158,t159,t160,t161,t162,t163,t164,aY,aZ,t167,t168,bf,bg,t171,bn,t173,bz,t175,bA,bB,bD,bF,bG,bH,t182,t183,bI,bJ,bK,bL,bM,bN,bO,bP,bQ,t193,t194,bR,t196,bS,t198,bT,bU,t201,bV,t203,bW,bX,t206,bY,t208,bZ,t210,cz,t212,t213,cB,cK,cO,cZ,t218,df,dh,di,t222,dm,dn,dw,t226,t227,t228,t229,dx,dz,nx,.int .i64 (gs.length:Int),.int .i64 ((j+1:Nat):Int),jG,u236,jH,jI,jJ,jK,jL,jM,jN,jO,jP,jQ,jR,jS,jT,jU,jV,jW,jX,jY,jZ,j5,j6,kg,ko,kr,ku,kv,ky,kz,kC,kD,kE,kF,kG,kH,kI,kJ,kK,kL,kM,kN,jq,iE,iF,iG,iH,iI,iJ,iK,iL,iM,iN,iO,iP,iQ,iR,iT,iU,iV,iW,iX,iY,iZ,jb,jc,kP,kQ,kR,kS,kT,kU,aL],[]⟩ w')
  (hE:∀ (u24 u25 u26 u27 u234 jG u236 jH jI jJ jK jL jM jN jO jP jQ jR jS jT jU jV jW jX jY jZ j5 j6 kg ko kr ku kv ky kz kC kD kE kF kG kH kI kJ kK kL kM kN jq iE iF iG iH iI iJ iK iL iM iN iO iP iQ iR iT iU iV iW iX iY iZ jb jc kP kQ kR kS kT kU:Value) (s:Vf.S) (rv:Value) (w':World),L3 c kk AT NB C nn nv gs k w s rv gs.length w'→D (.ok s)→Q (.exit 5) ⟨#[t0,t1,t2,.pointer (some ⟨w.heap.size+1,0,none⟩),.pointer (some ⟨w.heap.size+1+1,0,none⟩),.pointer (some ⟨w.heap.size+1+1+1,0,none⟩),.slice (some ⟨w.heap.size+1+1+1+1,0,none⟩) c.u.code.length c.u.code.length,t7,t8,rv,.pointer (some ⟨AT,0,none⟩),t11,nv,.string sb,.func (.func 44) #[] #[.pointer (some ⟨w.heap.size+1,0,none⟩),.pointer (some ⟨AT,0,none⟩)],t15,t16,t17,t18,t19,t20,t21,t22,t23,u24,u25,u26,u27,t28,t29,t30,t31,t32,t33,t34,t35,t36,t37,t38,t39,t40,t41,t42,t43,t44,t45,t46,t47,t48,t49,t50,t51,t52,t53,t54,t55,t56,t57,t58,t59,t60,t61,t62,t63,t64,t65,t66,t67,t68,t69,t70,t71,t72,t73,t74,t75,t76,t77,t78,t79,t80,t81,t82,t83,t84,t85,t86,t87,t88,t89,t90,t91,t92,t93,t94,t95,t96,t97,t98,t99,t100,t101,t102,t103,t104,t105,t106,t107,t108,t109,t110,t111,t112,t113,t114,t115,t116,t117,t118,t119,t120,t121,t122,t123,t124,t125,t126,t127,t128,t129,t130,t131,t132,t133,t134,t135,t136,t137,t138,t139,t140,t141,t142,t143,t144,t145,t146,t147,t148,t149,t150,t151,t152,t153,t154,t155,t156,t157,t158,t159,t160,t161,t162,t163,t164,aY,aZ,t167,t168,bf,bg,t171,bn,t173,bz,t175,bA,bB,bD,bF,bG,bH,t182,t183,bI,bJ,bK,bL,bM,bN,bO,bP,bQ,t193,t194,bR,t196,bS,t198,bT,bU,t201,bV,t203,bW,bX,t206,bY,t208,bZ,t210,cz,t212,t213,cB,cK,cO,cZ,t218,df,dh,di,t222,dm,dn,dw,t226,t227,t228,t229,dx,dz,nx,.int .i64 (gs.length:Int),u234,jG,u236,jH,jI,jJ,jK,jL,jM,jN,jO,jP,jQ,jR,jS,jT,jU,jV,jW,jX,jY,jZ,j5,j6,kg,ko,kr,ku,kv,ky,kz,kC,kD,kE,kF,kG,kH,kI,kJ,kK,kL,kM,kN,jq,iE,iF,iG,iH,iI,iJ,iK,iL,iM,iN,iO,iP,iQ,iR,iT,iU,iV,iW,iX,iY,iZ,jb,jc,kP,kQ,kR,kS,kT,kU,aL],[]⟩ w')
  (aS:∀ (a:Act) (w':World) (e:Int),D (.error e)→e≠0→a.tmps[4]?=some (.pointer (some ⟨w.heap.size+1+1,0,none⟩))→a.defers=[]→w'.heap[w.heap.size+1+1]?=some (.cells #[.int .i64 e,.int .i64 (kk:Int),.int .i64 (nn:Int)] 28 (0,0))→w.grownBy w' none→Q .ret a w') :
  Code.wp Tryz.prog zk (Exit.then K Q) ⟨#[t0,t1,t2,.pointer (some ⟨w.heap.size+1,0,none⟩),.pointer (some ⟨w.heap.size+1+1,0,none⟩),.pointer (some ⟨w.heap.size+1+1+1,0,none⟩),.slice (some ⟨w.heap.size+1+1+1+1,0,none⟩) c.u.code.length c.u.code.length,t7,t8,rv,.pointer (some ⟨AT,0,none⟩),t11,nv,.string sb,.func (.func 44) #[] #[.pointer (some ⟨w.heap.size+1,0,none⟩),.pointer (some ⟨AT,0,none⟩)],t15,t16,t17,t18,t19,t20,t21,t22,t23,t24,t25,t26,t27,t28,t29,t30,t31,t32,t33,t34,t35,t36,t37,t38,t39,t40,t41,t42,t43,t44,t45,t46,t47,t48,t49,t50,t51,t52,t53,t54,t55,t56,t57,t58,t59,t60,t61,t62,t63,t64,t65,t66,t67,t68,t69,t70,t71,t72,t73,t74,t75,t76,t77,t78,t79,t80,t81,t82,t83,t84,t85,t86,t87,t88,t89,t90,t91,t92,t93,t94,t95,t96,t97,t98,t99,t100,t101,t102,t103,t104,t105,t106,t107,t108,t109,t110,t111,t112,t113,t114,t115,t116,t117,t118,t119,t120,t121,t122,t123,t124,t125,t126,t127,t128,t129,t130,t131,t132,t133,t134,t135,t136,t137,t138,t139,t140,t141,t142,t143,t144,t145,t146,t147,t148,t149,t150,t151,t152,t153,t154,t155,t156,t157,t158,t159,t160,t161,t162,t163,t164,aY,aZ,t167,t168,bf,bg,t171,bn,t173,bz,t175,bA,bB,bD,bF,bG,bH,t182,t183,bI,bJ,bK,bL,bM,bN,bO,bP,bQ,t193,t194,bR,t196,bS,t198,bT,bU,t201,bV,t203,bW,bX,t206,bY,t208,bZ,t210,cz,t212,t213,cB,cK,cO,cZ,t218,df,dh,di,t222,dm,dn,dw,t226,t227,t228,t229,dx,dz,nx,.int .i64 (gs.length:Int),.int .i64 (j:Int),dB,t236,dC,dD,dE,dF,dG,dH,dI,dJ,dK,dL,dM,dN,dO,dP,dQ,dR,dS,dU,dV,dW,dX,dY,dZ,ed,ek,eu,eB,eD,eF,eG,eH,eO,eP,eQ,eT,eU,eX,eY,eZ,gW,gX,fI,fJ,fK,fM,fO,fP,fQ,fT,fU,fV,fZ,gp,gu,gy,gz,gB,gD,gF,gG,gH,gI,gJ,gK,fq,fw,fA,fB,fC,fD,aL],[]⟩ wr:=by
 have HK:=hide hK;have HX:=hide hE;have gY:=hide aS;have HL:=hL;clear hK hE aS hL;have hle:=HL.out.le;have hll:=HL.out.cd.lt;have q5:=(jo HL.out.cd.ub).2.2.2.2.2;conv=>arg 2;whnf
 by_cases hj:j<gs.length
 ·obtain⟨t,ht⟩:∃ t,gs[j]?=some t:=⟨_,List.getElem?_eq_getElem hj⟩
  have hne:gs≠[]:=fun e=>by rw[e] at hj;cases hj
  have acA:=hnx.out hne;have cn:=acw (HL.out.nb hne) ht;have hnl:=lt_of_block (HL.out.nb hne);obtain⟨ht0,htl⟩:=hgs.out t (List.mem_of_getElem? ht);obtain⟨tn,htn⟩:=yM ht0;have hji:(j:Int)<(gs.length:Int):=by omega
  have GI:Hid (D (Vf.andThen (Vf.sU c.u.code.length k t s) (Vf.jf c.u.code.length k (gs.drop (j+1))))):=by
   have:=hD.out;rw[acv ht] at this;exact this
  subst htn acA;clear ht hD hne ht0;by_cases Ur:tn=c.u.code.length
  ·have e3:((tn:Int)==(c.u.code.length:Int))=true:=by simp[Ur]
   have HE:Hid (D (.error 3)):=by
    have h1:=GI.out;unfold Vf.sU at h1;rw[if_neg (by omega)] at h1;exact h1
   clear Ur GI;go_wp2_with fail
   refine (rV (w.heap.size+1) AT 3 (kk:Int) (nn:Int) _ (hide (aI HL.out.cd.kb)) (hide (aI HL.out.ab)) (by omega) (lt_of_block HL.out.ab)).mono ?_;rintro e w9 ⟨rfl,ax⟩;have av:Hid (w9.heap[w.heap.size+1+1]?=some aU):=(aC ax (lt_of_block HL.out.cd.wz)).trans HL.out.cd.wz;have ak:Hid (w.grownBy w9 none):=aJ HL.out.cd.grown ax;obtain⟨⟨z0,z1,z2⟩,y0,y1,y2⟩:=aP av.out;have rW:=lt_of_block av.out;clear ax;go_wp2
   exact gY.out _ _ 3 HE.out (by decide) rfl rfl (jd av.out _ _ _) (af (af (af ak.out (by omega) _ _) (by omega) _ _) (by omega) _ _)
  have e3:((tn:Int)==(c.u.code.length:Int))=false:=by
   rw[beq_eq_false_iff_ne];omega
  have FJ:tn<c.u.code.length:=by omega
  have hti:(tn:Int)<(c.u.code.length:Int):=by omega
  have hsl:=HL.out.se.lt;cases hc:s.come tn with
  | none =>
   obtain⟨d0,⟨x1,d1⟩,⟨x2,d2⟩⟩:=HL.out.se.no FJ (Vf.Ui hc);have HE:Hid (D (Vf.jf c.u.code.length k (gs.drop (j+1)) (s.note tn k))):=by
    have h1:=GI.out;unfold Vf.sU at h1;rw[if_pos (by omega)] at h1;simp only[Int.toNat_natCast,hc] at h1;exact h1
   clear GI;go_wp2_with (first | (have hx1:=HF.out;at_builtin;refine Uk rfl _ _ rfl (w.heap.size+1+1+1+1) rv s.row tn rfl (xR.out.alloc _) _ rfl (Uq (by simp[World.setCell])) (by have:=HL.out.few;omega) (by have:=HF.out.1.lt;rw[World.size_alloc];omega) ?_;intro v4 w4 hq4 hg4 Us;have HR4:Hid (L3 c kk AT NB C nn nv gs k w (s.note tn k) v4 (j+1) w4):=HL.out.row HF.out.1 HF.out.2.1 HF.out.2.2.1 HF.out.2.2.2 hq4 hg4 Us (EK HL.out.inv FJ hks.out) (HL.out.sQ.note KS.out) hj;clear hq4 hg4 Us hx1) | (at_builtin;refine yc rfl _ _ rfl wr.heap.size C rfl (heap_alloc_new _ _) nv (Vf.bl c.u.locals.length k.fl) rfl (vT HL.out.now (ai (World.grownBy.refl _ _) _)) (by rw[Vf.iB];exact hz1) ?_;intro v2 w2 hb2 kZ;obtain⟨a2,cp2,rfl⟩:=tC hb2 (Vf.iB _ _);have HG2:Hid (wr.grownBy w2 none):=(ai (World.grownBy.refl wr _) _).andThen kZ (fun j e=>.inl (by cases e;exact Nat.le_refl _));have HF:=hide (HL.out.first FJ hsb.out HG2.out hb2);have xR:=hide (HL.out.q.keep (fun b hb=>HF.out.2.2.2 b _ (FI HL.out.q hb).choose_spec));obtain⟨b0,⟨y1,b1⟩,⟨y2,b2⟩⟩:=(HL.out.se.grown HG2.out).no FJ (Vf.Ui hc);have f0:=(HL.out.se.grown HG2.out).frozen (tn * 3);have f1:=(HL.out.se.grown HG2.out).frozen (tn * 3+1);have f2:=(HL.out.se.grown HG2.out).frozen (tn * 3+2);have l2:=(HL.out.se.grown HG2.out).lt;clear hb2 kZ))
   exact HK.out _ _ _ _ _ _ _ _ _ _ _ _ _ _ _ _ _ _ _ _ _ _ _ _ _ _ _ _ _ _ _ _ _ _ _ _ _ _ _ _ _ _ _ _ _ _ _ _ _ _ _ _ _ _ _ _ _ _ _ _ _ _ _ _ _ _ _ _ _ _ _ _ _ _ _ _ (s.note tn k) v4 _ HR4.out HE.out hj
  | some t' =>
   obtain⟨s1,v1,d0,d1,d2,hs1,hbr,_,hsep⟩:=HL.out.se.yes FJ (Vf.sO hc);have KT:Hid (D (Vf.andThen (if t'.st=k.st then (if Vf.Fl.eq (t'.fl.both k.fl) t'.fl=true then .ok s else .ok (s.note tn ⟨t'.st,t'.fl.both k.fl⟩)) else .error 8) (Vf.jf c.u.code.length k (gs.drop (j+1))))):=by
    have h1:=GI.out;unfold Vf.sU at h1;rw[if_pos (by omega)] at h1;simp only[Int.toNat_natCast,hc] at h1;exact h1
   have HC:=hide hc;clear GI hc;by_cases hst:t'.st=k.st
   ·have hss:s1=sb:=acy (by rw[hs1,hsb.out,hst])
    have hse:(s1.toList==sb.toList)=true:=by rw[hss];simp
    have Ut:Hid (D (Vf.andThen (if Vf.Fl.eq (t'.fl.both k.fl) t'.fl=true then .ok s else .ok (s.note tn ⟨t'.st,t'.fl.both k.fl⟩)) (Vf.jf c.u.code.length k (gs.drop (j+1))))):=by
     have h1:=KT.out;rw[if_pos hst] at h1;exact h1
    have lh:=hide hbr;have Hd:Hid (Vf.tT c.u.locals.length t'.fl):=HL.out.sQ tn t' HC.out;have HST:=hide hst;have Mt:Hid (L4 (w.heap.size+1+1+1+1) c.u.locals.length c.u.code.length (w.heap.size+1+1+1+1) tn C (Vf.cm c.u.locals.length s.come) nv.ownBlock t'.st t'.fl k.fl nv v1 wr 0 false wr):=by
     refine⟨Nat.zero_le _,?_,HL.out.now,rfl,World.grownBy.refl _ _,d2,rfl⟩;have e:upd (Vf.cm c.u.locals.length s.come) tn (t'.st,Vf.bm c.u.locals.length t'.fl k.fl 0)=Vf.cm c.u.locals.length s.come:=by
      funext i
      unfold upd;by_cases hi:i=tn
      ·rw[if_pos hi,hi,Vf.sO HC.out,Vf.acf]
      ·rw[if_neg hi]
     rw[e];exact HL.out.se
    obtain⟨a1,c1,hv1⟩:=tC hbr (Vf.iB _ _);subst hv1;clear hss hst hbr hsep hs1 KT;go_wp2_with fail
    refine wp_loop_rounds (c:=Oo) (c.u.locals.length+1) (Um (w.heap.size+1+1+1+1) c.u.locals.length c.u.code.length (w.heap.size+1+1+1+1) tn C (Vf.cm c.u.locals.length s.come) nv.ownBlock t'.st t'.fl k.fl nv _ wr FJ hz1 _ _ _ _ _ _ _ _ _ _ _ _ _ _ _ _ _ _ _ _ _ _ _ _ _ _ _ _ _ _ _ _ _ _ _ _ _ _ _ _ _ _ _ _ _ _ _ _ _ _ _ _ _ _ _ _ _ _ _ _ _ _ _ _ _ _ _ _ _ _ _ _ _ _ _ _ _ _ _ _ _ _ _ _ _ _ _ _ _ _ _ _ _ _ _ _ _ _ _ _ _ _ _ _ _ _ _ _ _ _ _ _ _ _ _ _ _ _ _ _ _ _ _ _ _ _ _ _ _ _ _ _ _ _ _ _ _ _ _ _ _ _ _ _ _ _ _ _ _ _ _ _ _ _ _ _ _ _ _ _ _ _ _ _ _ _ _ _ _ _ _ _ _ _ _ _ _ _ _ _ _ _ _ _ _ _ _ _ _ _ _ _ _ _ _ _ _ _ _ _ _ _ _ _ _ _ _ _ _ _ _ _ _ _ _ _ _ _ _ _ _ _ _ _ _ _ _ _ _ _ _ _ _ _ _ _ _ _ _ _ _ _ _ _ _ _ _ _ _ _ _ _ _ _ _ _ _ _ _ _ _ _ _ _ _ _ _ _ _ _ _ _ _ _ _ _ _ _ _ _ ?_ (c.u.locals.length+1) _ _ _ _ _ _ _ _ _ _ _ _ _ _ _ _ _ _ _ _ _ _ _ _ 0 false wr (by omega) Mt.out);intro x27 A9 Ba Bb Bc Bd Be Bf Bg Bh Bi Bj Bl Bn Bo Bp Br Bt Bu Bv Bw Bz BA BB BC lb w4 hL4;have KU:=hide hL4;have Uu:Hid (lb=!(Vf.Fl.eq (t'.fl.both k.fl) t'.fl)):=by
     unfold Hid;rw[KU.out.lb];exact Vf.acj Hd.out
    have HP:=hide (HL.out.l4 KU.out lh.out);have Ff:=hide (HL.out.q.keep (fun b hb=>HP.out.2.2 b _ (FI HL.out.q hb).choose_spec));clear hL4;cases lb with
    | true =>
     have HE:Hid (D (Vf.jf c.u.code.length k (gs.drop (j+1)) (s.note tn ⟨t'.st,t'.fl.both k.fl⟩))):=by
      have h1:=Ut.out;have h2:=Uu.out;cases he:Vf.Fl.eq (t'.fl.both k.fl) t'.fl with
      | true=>rw[he] at h2;cases h2
      | false=>rw[he] at h1;exact h1
     go_wp2_with (at_builtin;refine Uk rfl _ _ rfl (w.heap.size+1+1+1+1) rv s.row tn rfl (Ff.out.alloc _) _ rfl (Uq rfl) (by have:=HL.out.few;omega) (by have:=HP.out.1.lt;rw[World.size_alloc];omega) ?_;intro v5 w5 Ad hg5 Uv;have Hr:Hid (L3 c kk AT NB C nn nv gs k w (s.note tn ⟨t'.st,t'.fl.both k.fl⟩) v5 (j+1) w5):=HL.out.row HP.out.1 HP.out.2.1 KU.out.now HP.out.2.2 Ad hg5 Uv (EK HL.out.inv FJ (HL.out.inv.1 tn t' HC.out).2) (HL.out.sQ.note Hd.out.both) hj;clear Ad hg5 Uv)
     exact HK.out _ _ _ _ _ _ _ _ _ _ _ _ _ _ _ _ _ _ _ _ _ _ _ _ _ _ _ _ _ _ _ _ _ _ _ _ _ _ _ _ _ _ _ _ _ _ _ _ _ _ _ _ _ _ _ _ _ _ _ _ _ _ _ _ _ _ _ _ _ _ _ _ _ _ _ _ (s.note tn ⟨t'.st,t'.fl.both k.fl⟩) v5 _ Hr.out HE.out hj
    | false =>
     have JV:Hid (Vf.Fl.eq (t'.fl.both k.fl) t'.fl=true):=by
      have h2:=Uu.out;cases he:Vf.Fl.eq (t'.fl.both k.fl) t'.fl with
      | true=>rfl
      | false=>rw[he] at h2;cases h2
     have HE:Hid (D (Vf.jf c.u.code.length k (gs.drop (j+1)) s)):=by
      have h1:=Ut.out;rw[if_pos JV.out] at h1;exact h1
     go_wp2
     exact HK.out _ _ _ _ _ _ _ _ _ _ _ _ _ _ _ _ _ _ _ _ _ _ _ _ _ _ _ _ _ _ _ _ _ _ _ _ _ _ _ _ _ _ _ _ _ _ _ _ _ _ _ _ _ _ _ _ _ _ _ _ _ _ _ _ _ _ _ _ _ _ _ _ _ _ _ _ s rv _ (HL.out.same KU.out lh.out HC.out (Vf.Fl.eq_iff.1 JV.out) hj) HE.out hj
   ·have hse:(s1.toList==sb.toList)=false:=by
     rw[Bool.eq_false_iff];intro e;rw[beq_iff_eq,Lib.toList_data,Lib.toList_data,hs1,hsb.out] at e;exact hst (acx (fun t ht=>Vf.Cr hmu ((HL.out.inv.1 tn t' HC.out).2.1 t ht)) (fun t ht=>Vf.Cr hmu (hks.out.1 t ht)) e)
    have HE:Hid (D (.error 8)):=by
     have h1:=KT.out;rw[if_neg hst] at h1;exact h1
    clear hst hbr hsep hs1 KT;go_wp2_with fail
    refine (rV (w.heap.size+1) AT 8 (kk:Int) (nn:Int) _ (hide (aI HL.out.cd.kb)) (hide (aI HL.out.ab)) (by omega) (lt_of_block HL.out.ab)).mono ?_;rintro e w9 ⟨rfl,ax⟩;have av:Hid (w9.heap[w.heap.size+1+1]?=some aU):=(aC ax (lt_of_block HL.out.cd.wz)).trans HL.out.cd.wz;have ak:Hid (w.grownBy w9 none):=aJ HL.out.cd.grown ax;obtain⟨⟨z0,z1,z2⟩,y0,y1,y2⟩:=aP av.out;have rW:=lt_of_block av.out;clear ax;go_wp2
    exact gY.out _ _ 8 HE.out (by decide) rfl rfl (jd av.out _ _ _) (af (af (af ak.out (by omega) _ _) (by omega) _ _) (by omega) _ _)
 ·have T9:j=gs.length:=by omega
  have HE:Hid (D (.ok s)):=by
   have h1:=hD.out;rw[List.drop_eq_nil_of_le (by omega)] at h1;exact h1
  subst T9;clear hD;go_wp2
  exact HX.out _ _ _ _ _ _ _ _ _ _ _ _ _ _ _ _ _ _ _ _ _ _ _ _ _ _ _ _ _ _ _ _ _ _ _ _ _ _ _ _ _ _ _ _ _ _ _ _ _ _ _ _ _ _ _ _ _ _ _ _ _ _ _ _ _ _ _ _ _ _ _ _ _ _ _ _ _ s rv _ HL.out HE.out
set_option maxRecDepth 1000000 in
theorem Ai (c:FC)(kk AT NB C nn:Nat)(nv nx:Value)(sb:ByteArray)(gs:List Int)(k:Vf.Kn)(w:World)(D:Except Int Vf.S→Prop)(hsb:Hid (sb.data.toList=(k.st.map Vf.ag).reverse))(hks:Hid (aQ c.m k.st))(KS:Hid (Vf.tT c.u.locals.length k.fl))(hgs:Hid (∀ t ∈ gs,0≤t∧t≤c.u.code.length))(hnx:Hid (gs≠[]→nx=.slice (some ⟨NB,0,none⟩) gs.length gs.length))(hg2:gs.length≤2)(hz1:c.u.locals.length≤200)(hmu:c.m.units.length≤30)(Q:Exit→Act→World→Prop)(t0 t1 t2 t7 t8 t11 t15 t16 t17 t18 t19 t20 t21 t22 t23 t28 t29 t30 t31 t32 t33 t34 t35 t36 t37 t38 t39 t40 t41 t42 t43 t44 t45 t46 t47 t48 t49 t50 t51 t52 t53 t54 t55 t56 t57 t58 t59 t60 t61 t62 t63 t64 t65 t66 t67 t68 t69 t70 t71 t72 t73 t74 t75 t76 t77 t78 t79 t80 t81 t82 t83 t84 t85 t86 t87 t88 t89 t90 t91 t92 t93 t94 t95 t96 t97 t98 t99 t100 t101 t102 t103 t104 t105 t106 t107 t108 t109 t110 t111 t112 t113 t114 t115 t116 t117 t118 t119 t120 t121 t122 t123 t124 t125 t126 t127 t128 t129 t130 t131 t132 t133 t134 t135 t136 t137 t138 t139 t140 t141 t142 t143 t144 t145 t146 t147 t148 t149 t150 t151 t152 t153 t154 t155 t156 t157 t158 t159 t160 t161 t162 t163 t164 aY aZ t167 t168 bf bg t171 bn t173 bz t175 bA bB bD bF bG bH t182 t183 bI bJ bK bL bM bN bO bP bQ t193 t194 bR t196 bS t198 bT bU t201 bV t203 bW bX t206 bY t208 bZ t210 cz t212 t213 cB cK cO cZ t218 df dh di t222 dm dn dw t226 t227 t228 t229 dx dz aL:Value)
  (hE:∀ (u24 u25 u26 u27 u234 jG u236 jH jI jJ jK jL jM jN jO jP jQ jR jS jT jU jV jW jX jY jZ j5 j6 kg ko kr ku kv ky kz kC kD kE kF kG kH kI kJ kK kL kM kN jq iE iF iG iH iI iJ iK iL iM iN iO iP iQ iR iT iU iV iW iX iY iZ jb jc kP kQ kR kS kT kU:Value) (s:Vf.S) (rv:Value) (w':World),L3 c kk AT NB C nn nv gs k w s rv gs.length w'→D (.ok s)→Q (.exit 5) ⟨#[t0,t1,t2,.pointer (some ⟨w.heap.size+1,0,none⟩),.pointer (some ⟨w.heap.size+1+1,0,none⟩),.pointer (some ⟨w.heap.size+1+1+1,0,none⟩),.slice (some ⟨w.heap.size+1+1+1+1,0,none⟩) c.u.code.length c.u.code.length,t7,t8,rv,.pointer (some ⟨AT,0,none⟩),t11,nv,.string sb,.func (.func 44) #[] #[.pointer (some ⟨w.heap.size+1,0,none⟩),.pointer (some ⟨AT,0,none⟩)],t15,t16,t17,t18,t19,t20,t21,t22,t23,u24,u25,u26,u27,t28,t29,t30,t31,t32,t33,t34,t35,t36,t37,t38,t39,t40,t41,t42,t43,t44,t45,t46,t47,t48,t49,t50,t51,t52,t53,t54,t55,t56,t57,t58,t59,t60,t61,t62,t63,t64,t65,t66,t67,t68,t69,t70,t71,t72,t73,t74,t75,t76,t77,t78,t79,t80,t81,t82,t83,t84,t85,t86,t87,t88,t89,t90,t91,t92,t93,t94,t95,t96,t97,t98,t99,t100,t101,t102,t103,t104,t105,t106,t107,t108,t109,t110,t111,t112,t113,t114,t115,t116,t117,t118,t119,t120,t121,t122,t123,t124,t125,t126,t127,t128,t129,t130,t131,t132,t133,t134,t135,t136,t137,t138,t139,t140,t141,t142,t143,t144,t145,t146,t147,t148,t149,t150,t151,t152,t153,t154,t155,t156,t157,t158,t159,t160,t161,t162,t163,t164,aY,aZ,t167,t168,bf,bg,t171,bn,t173,bz,t175,bA,bB,bD,bF,bG,bH,t182,t183,bI,bJ,bK,bL,bM,bN,bO,bP,bQ,t193,t194,bR,t196,bS,t198,bT,bU,t201,bV,t203,bW,bX,t206,bY,t208,bZ,t210,cz,t212,t213,cB,cK,cO,cZ,t218,df,dh,di,t222,dm,dn,dw,t226,t227,t228,t229,dx,dz,nx,.int .i64 (gs.length:Int),u234,jG,u236,jH,jI,jJ,jK,jL,jM,jN,jO,jP,jQ,jR,jS,jT,jU,jV,jW,jX,jY,jZ,j5,j6,kg,ko,kr,ku,kv,ky,kz,kC,kD,kE,kF,kG,kH,kI,kJ,kK,kL,kM,kN,jq,iE,iF,iG,iH,iI,iJ,iK,iL,iM,iN,iO,iP,iQ,iR,iT,iU,iV,iW,iX,iY,iZ,jb,jc,kP,kQ,kR,kS,kT,kU,aL],[]⟩ w')
  (aS:∀ (a:Act) (w':World) (e:Int),D (.error e)→e≠0→a.tmps[4]?=some (.pointer (some ⟨w.heap.size+1+1,0,none⟩))→a.defers=[]→w'.heap[w.heap.size+1+1]?=some (.cells #[.int .i64 e,.int .i64 (kk:Int),.int .i64 (nn:Int)] 28 (0,0))→w.grownBy w' none→Q .ret a w') :
  ∀ (f:Nat) (t24 t25 t26 t27 dB t236 dC dD dE dF dG dH dI dJ dK dL dM dN dO dP dQ dR dS dU dV dW dX dY dZ ed ek eu eB eD eF eG eH eO eP eQ eT eU eX eY eZ gW gX fI fJ fK fM fO fP fQ fT fU fV fZ gp gu gy gz gB gD gF gG gH gI gJ gK fq fw fA fB fC fD:Value) (s:Vf.S) (rv:Value) (j:Nat) (wr:World),gs.length - j<f→L3 c kk AT NB C nn nv gs k w s rv j wr→D (Vf.jf c.u.code.length k (gs.drop j) s)→Code.rounds Tryz.prog zk Q f ⟨#[t0,t1,t2,.pointer (some ⟨w.heap.size+1,0,none⟩),.pointer (some ⟨w.heap.size+1+1,0,none⟩),.pointer (some ⟨w.heap.size+1+1+1,0,none⟩),.slice (some ⟨w.heap.size+1+1+1+1,0,none⟩) c.u.code.length c.u.code.length,t7,t8,rv,.pointer (some ⟨AT,0,none⟩),t11,nv,.string sb,.func (.func 44) #[] #[.pointer (some ⟨w.heap.size+1,0,none⟩),.pointer (some ⟨AT,0,none⟩)],t15,t16,t17,t18,t19,t20,t21,t22,t23,t24,t25,t26,t27,t28,t29,t30,t31,t32,t33,t34,t35,t36,t37,t38,t39,t40,t41,t42,t43,t44,t45,t46,t47,t48,t49,t50,t51,t52,t53,t54,t55,t56,t57,t58,t59,t60,t61,t62,t63,t64,t65,t66,t67,t68,t69,t70,t71,t72,t73,t74,t75,t76,t77,t78,t79,t80,t81,t82,t83,t84,t85,t86,t87,t88,t89,t90,t91,t92,t93,t94,t95,t96,t97,t98,t99,t100,t101,t102,t103,t104,t105,t106,t107,t108,t109,t110,t111,t112,t113,t114,t115,t116,t117,t118,t119,t120,t121,t122,t123,t124,t125,t126,t127,t128,t129,t130,t131,t132,t133,t134,t135,t136,t137,t138,t139,t140,t141,t142,t143,t144,t145,t146,t147,t148,t149,t150,t151,t152,t153,t154,t155,t156,t157,t158,t159,t160,t161,t162,t163,t164,aY,aZ,t167,t168,bf,bg,t171,bn,t173,bz,t175,bA,bB,bD,bF,bG,bH,t182,t183,bI,bJ,bK,bL,bM,bN,bO,bP,bQ,t193,t194,bR,t196,bS,t198,bT,bU,t201,bV,t203,bW,bX,t206,bY,t208,bZ,t210,cz,t212,t213,cB,cK,cO,cZ,t218,df,dh,di,t222,dm,dn,dw,t226,t227,t228,t229,dx,dz,nx,.int .i64 (gs.length:Int),.int .i64 (j:Int),dB,t236,dC,dD,dE,dF,dG,dH,dI,dJ,dK,dL,dM,dN,dO,dP,dQ,dR,dS,dU,dV,dW,dX,dY,dZ,ed,ek,eu,eB,eD,eF,eG,eH,eO,eP,eQ,eT,eU,eX,eY,eZ,gW,gX,fI,fJ,fK,fM,fO,fP,fQ,fT,fU,fV,fZ,gp,gu,gy,gz,gB,gD,gF,gG,gH,gI,gJ,gK,fq,fw,fA,fB,fC,fD,aL],[]⟩ wr
 | 0,t24,t25,t26,t27,dB,t236,dC,dD,dE,dF,dG,dH,dI,dJ,dK,dL,dM,dN,dO,dP,dQ,dR,dS,dU,dV,dW,dX,dY,dZ,ed,ek,eu,eB,eD,eF,eG,eH,eO,eP,eQ,eT,eU,eX,eY,eZ,gW,gX,fI,fJ,fK,fM,fO,fP,fQ,fT,fU,fV,fZ,gp,gu,gy,gz,gB,gD,gF,gG,gH,gI,gJ,gK,fq,fw,fA,fB,fC,fD,_,_,_,_,h,_,_=>absurd h (Nat.not_lt_zero _)
 | f+1,t24,t25,t26,t27,dB,t236,dC,dD,dE,dF,dG,dH,dI,dJ,dK,dL,dM,dN,dO,dP,dQ,dR,dS,dU,dV,dW,dX,dY,dZ,ed,ek,eu,eB,eD,eF,eG,eH,eO,eP,eQ,eT,eU,eX,eY,eZ,gW,gX,fI,fJ,fK,fM,fO,fP,fQ,fT,fU,fV,fZ,gp,gu,gy,gz,gB,gD,gF,gG,gH,gI,gJ,gK,fq,fw,fA,fB,fC,fD,s,rv,j,wr,h,hL,hD=>acz t0 t1 t2 t7 t8 t11 t15 t16 t17 t18 t19 t20 t21 t22 t23 t24 t25 t26 t27 t28 t29 t30 t31 t32 t33 t34 t35 t36 t37 t38 t39 t40 t41 t42 t43 t44 t45 t46 t47 t48 t49 t50 t51 t52 t53 t54 t55 t56 t57 t58 t59 t60 t61 t62 t63 t64 t65 t66 t67 t68 t69 t70 t71 t72 t73 t74 t75 t76 t77 t78 t79 t80 t81 t82 t83 t84 t85 t86 t87 t88 t89 t90 t91 t92 t93 t94 t95 t96 t97 t98 t99 t100 t101 t102 t103 t104 t105 t106 t107 t108 t109 t110 t111 t112 t113 t114 t115 t116 t117 t118 t119 t120 t121 t122 t123 t124 t125 t126 t127 t128 t129 t130 t131 t132 t133 t134 t135 t136 t137 t138 t139 t140 t141 t142 t143 t144 t145 t146 t147 t148 t149 t150 t151 t152 t153 t154 t155 t156 t157 t158 t159 t160 t161 t162 t163 t164 aY aZ t167 t168 bf bg t171 bn t173 bz t175 bA bB bD bF bG bH t182 t183 bI bJ bK bL bM bN bO bP bQ t193 t194 bR t196 bS t198 bT bU t201 bV t203 bW bX t206 bY t208 bZ t210 cz t212 t213 cB cK cO cZ t218 df dh di t222 dm dn dw t226 t227 t228 t229 dx dz dB t236 dC dD dE dF dG dH dI dJ dK dL dM dN dO dP dQ dR dS dU dV dW dX dY dZ ed ek eu eB eD eF eG eH eO eP eQ eT eU eX eY eZ gW gX fI fJ fK fM fO fP fQ fT fU fV fZ gp gu gy gz gB gD gF gG gH gI gJ gK fq fw fA fB fC fD aL c kk AT NB C nn nv nx sb gs k w D hsb hks KS hgs hnx hg2 hz1 hmu s rv j wr hL hD _ Q (fun u24 u25 u26 u27 jG u236 jH jI jJ jK jL jM jN jO jP jQ jR jS jT jU jV jW jX jY jZ j5 j6 kg ko kr ku kv ky kz kC kD kE kF kG kH kI kJ kK kL kM kN jq iE iF iG iH iI iJ iK iL iM iN iO iP iQ iR iT iU iV iW iX iY iZ jb jc kP kQ kR kS kT kU s rv w' hL' hD' hj=>Ai c kk AT NB C nn nv nx sb gs k w D hsb hks KS hgs hnx hg2 hz1 hmu Q t0 t1 t2 t7 t8 t11 t15 t16 t17 t18 t19 t20 t21 t22 t23 t28 t29 t30 t31 t32 t33 t34 t35 t36 t37 t38 t39 t40 t41 t42 t43 t44 t45 t46 t47 t48 t49 t50 t51 t52 t53 t54 t55 t56 t57 t58 t59 t60 t61 t62 t63 t64 t65 t66 t67 t68 t69 t70 t71 t72 t73 t74 t75 t76 t77 t78 t79 t80 t81 t82 t83 t84 t85 t86 t87 t88 t89 t90 t91 t92 t93 t94 t95 t96 t97 t98 t99 t100 t101 t102 t103 t104 t105 t106 t107 t108 t109 t110 t111 t112 t113 t114 t115 t116 t117 t118 t119 t120 t121 t122 t123 t124 t125 t126 t127 t128 t129 t130 t131 t132 t133 t134 t135 t136 t137 t138 t139 t140 t141 t142 t143 t144 t145 t146 t147 t148 t149 t150 t151 t152 t153 t154 t155 t156 t157 t158 t159 t160 t161 t162 t163 t164 aY aZ t167 t168 bf bg t171 bn t173 bz t175 bA bB bD bF bG bH t182 t183 bI bJ bK bL bM bN bO bP bQ t193 t194 bR t196 bS t198 bT bU t201 bV t203 bW bX t206 bY t208 bZ t210 cz t212 t213 cB cK cO cZ t218 df dh di t222 dm dn dw t226 t227 t228 t229 dx dz aL hE aS f u24 u25 u26 u27 jG u236 jH jI jJ jK jL jM jN jO jP jQ jR jS jT jU jV jW jX jY jZ j5 j6 kg ko kr ku kv ky kz kC kD kE kF kG kH kI kJ kK kL kM kN jq iE iF iG iH iI iJ iK iL iM iN iO iP iQ iR iT iU iV iW iX iY iZ jb jc kP kQ kR kS kT kU s rv (j+1) w' (by omega) hL' hD') hE aS
theorem yE {w:World}{B x:Nat}{rv:Value}{ws:List Nat}(h:QR w B rv (x :: ws)):∃ g off cap rv',rv=.slice (some ⟨g,off,none⟩) (ws.length+1) cap∧w.cell? ⟨g,off,none⟩=some (.int .i64 (x:Int))∧g<w.heap.size∧B≤g∧QR w B rv' ws∧rv'.ownBlock=some g∧(∀ W:World,(Instr.sliceAt 37 (.slice (some ⟨g,off,none⟩) (ws.length+1) cap) (some (.int .i64 1)) none none).run Tryz.prog W=.ok rv' W)∧(∀ W:World,(Instr.slice 37 (.slice (some ⟨g,off,none⟩) (ws.length+1) cap) (some (.int .i64 1)) none none).run Tryz.prog W=.ok rv' W):=by
 obtain⟨g,off,cap,lV,hcap,cx,hq1,hq2⟩:=h.pop;have hg:=h.lt g (by rw[lV];rfl);obtain⟨i0,hi,z0,z1,z2⟩:=info_parts Tryz.info3;have hsz:∀ W:World,(sizeOf 3).run Tryz.prog W=.ok 1 W:=fun W=>by simp[sizeOf,typeInfo,hi,z1]
 have hrun:∀ W:World,(Instr.slice 37 (.slice (some ⟨g,off,none⟩) (ws.length+1) cap) (some (.int .i64 1)) none none).run Tryz.prog W=.ok (sliced (some ⟨g,off,none⟩) 1 (ws.length+1) cap 1) W:=fun W=>by
  have:=run_slice_l (P:=Tryz.prog) W 37 (some ⟨g,off,none⟩) (ws.length+1) cap Tryz.underlying37 .i64 1 (by decide) (by omega);rw[this];have e:Tryz.prog.elem 37=3:=by kernel_rfl
  rw[e,hsz];rfl
 refine⟨g,off,cap,sliced (some ⟨g,off,none⟩) 1 (ws.length+1) cap 1,lV,cx,hg.2,hg.1,?_,?_,fun W=>?_,hrun⟩
 ·by_cases hc:cap=1
  ·subst hc
   have hl:ws.length=0:=by omega
   have:=hq1 rfl;simp[sliced];rw[hl];exact this
  ·have:=hq2 hc
   simp[sliced,hc];exact this
 ·unfold sliced Value.ownBlock
  by_cases hc:cap=1
  ·simp[hc]
  ·simp[hc,JQ]
 ·rw[run_sliceAt_slice W 37 _ _ _ _ Tryz.underlying37]
  exact hrun W
theorem jv.acB {B n len SB:Nat}{come:Nat→Option (List Int × List Bool)}{w w':World}{v:Value}(h:jv B n len SB come none w)(hg:w.grownBy w' none)(hX:∀ g,v.ownBlock=some g→w.heap.size≤g):jv B n len SB come v.ownBlock w':=by
 cases hv:v.ownBlock with
 | none=>exact h.grown hg
 | some g=>exact h.now hg (hX g hv)
structure RX (c:FC) (kk n:Nat) (op a nn:Int) (AT C:Nat) (nv:Value) (fl:Vf.Fl) (s:Vf.S) (rv:Value) (w W:World):Prop where
 cd:uN c kk w W
 se:jv (w.heap.size+1+1+1+1) c.u.locals.length c.u.code.length (w.heap.size+1+1+1+1) (Vf.cm c.u.locals.length s.come) nv.ownBlock W
 now:BR W C nv (Vf.bl c.u.locals.length fl)
 q:QR W (w.heap.size+1+1+1+1) rv s.row
 qa:∀ b,rv.ownBlock=some b→b<AT
 ab:W.heap[AT]?=some (kO n)
 ib:W.heap[AT+1]?=some (fF op a nn)
 ha:w.heap.size+1+1+1+1≤AT
 inv:Inv c.m c.u s
 sQ:Vf.Ex c.u.locals.length s
 few:s.row.length≤90000000
theorem RX.next {c:FC}{kk n AT C:Nat}{op a nn:Int}{nv rv:Value}{fl:Vf.Fl}{s:Vf.S}{w W W':World}(h:RX c kk n op a nn AT C nv fl s rv w W)(hg:W.grownBy W' none):RX c kk n op a nn AT C nv fl s rv w W' :=
 ⟨h.cd.next hg,h.se.grown hg,vT h.now hg,h.q.keep (fun b hb=>aC hg (h.q.lt b hb).2),h.qa,(aC hg (lt_of_block h.ab)).trans h.ab,(aC hg (lt_of_block h.ib)).trans h.ib,h.ha,h.inv,h.sQ,h.few⟩
theorem yF {c:FC}{kk n g:Nat}{op a nn:Int}{come:Nat→Option Vf.Kn}{row:List Nat}{rv rv' v2:Value}{w wr w2:World}{k:Vf.Kn}(hC:wV c kk w ⟨come,n :: row⟩ rv wr)(hq:QR wr (w.heap.size+1+1+1+1) rv' row)(ho:rv'.ownBlock=some g)(hg:g<wr.heap.size)(hm:Vf.mu c.u.code.length ⟨come,n :: row⟩≤3000000)
  (hgg:(((wr.alloc (kO n)).alloc (fF op a nn)).alloc (.cells #[] 4)).grownBy w2 (some (wr.heap.size+1+1))) (hb:BR w2 (wr.heap.size+1+1) v2 (Vf.bl c.u.locals.length k.fl)):RX c kk n op a nn wr.heap.size (wr.heap.size+1+1) v2 k.fl ⟨come,row⟩ rv' w w2:=by
 obtain⟨t0,t1,t2,t3⟩:=BV wr (kO n) (fF op a nn) (.cells #[] 4);have hgr:wr.grownBy w2 none:=t0.andThen hgg (fun j e=>.inl (by cases e;omega));have hl:=hC.cd.lt;have hf:row.length≤3000000:=by
  have:=Vf.OY (len:=c.u.code.length) (s:=⟨come,n :: row⟩);simp at this;omega
 refine⟨hC.cd.next hgr,hC.se.acB hgr (fun b hb'=>by have:=(A7 hb hb').1;omega),hb,hq.keep (fun b hb'=>aC hgr (hq.lt b hb').2),fun b hb'=>?_,(hgg.block _ (lt_of_block t1) (by simp;omega)).trans t1,(hgg.block _ (lt_of_block t2) (by simp)).trans t2,by omega,⟨hC.inv.come,fun j hj=>hC.inv.row j (List.mem_cons_of_mem _ hj)⟩,hC.sQ,by show row.length≤_;omega⟩;rw[ho] at hb';cases hb';exact hg
theorem RX.store {c:FC}{kk n AT C g cap x:Nat}{op a nn:Int}{rv:Value}{fl:Vf.Fl}{s:Vf.S}{w W:World}(h:RX c kk n op a nn AT C (.slice (some ⟨g,0,none⟩) c.u.locals.length cap) fl s rv w W)(hz:c.u.locals.length≤200)(hC:w.heap.size+1+1+1+1≤C):RX c kk n op a nn AT C (.slice (some ⟨g,0,none⟩) c.u.locals.length cap) (fl.fill x) s rv w (W.setCell ⟨g,x,none⟩ (.bool true)):=by
 obtain⟨hCg,cs,hb⟩:=A7 h.now (g:=g) rfl;have far:∀ (b:Nat) (cs':Array Value) (t:TypeId),W.heap[b]?=some (.cells cs' t (0,0))→t≠4→(W.setCell ⟨g,x,none⟩ (.bool true)).heap[b]?=W.heap[b]?:=fun b cs' t hb' ht=>Below.heap_setCell _ ⟨g,x,none⟩ _ _ (fun e=>by
  have e':b=g:=e;subst e';rw[hb] at hb';cases hb';exact ht rfl)
 obtain⟨cs0,hS⟩:=h.se.blk;refine⟨h.cd.set (by omega) _ _,h.se.keep (far _ _ _ hS (by decide)) (fun g' cs' hne hc=>Below.heap_setCell _ ⟨g,x,none⟩ _ _ (fun e=>hne (by have e':g'=g:=e;rw[e'];rfl))),?_,h.q.keep (fun b hb'=>far b _ _ (FI h.q hb').choose_spec (by decide)),h.qa,(far _ _ _ h.ab (by decide)).trans h.ab,(far _ _ _ h.ib (by decide)).trans h.ib,h.ha,h.inv,h.sQ,h.few⟩;rw[Vf.Uf _ hz];exact Ol h.now (Vf.iB _ _) true
theorem RX.l3 {c:FC}{kk n AT C NB:Nat}{op a nn:Int}{nv rv:Value}{fl:Vf.Fl}{st:List Int}{s:Vf.S}{w W:World}{gs:List Int}(h:RX c kk n op a nn AT C nv fl s rv w W)(hN:gs≠[]→W.heap[NB]?=some (.cells (List.toArray (KR gs)) 3 (0,0)))(hNB:∀ b,rv.ownBlock=some b→b<NB):L3 c kk AT NB C n nv gs ⟨st,fl⟩ w s rv 0 W :=
 ⟨h.cd,h.se,h.now,h.q,fun e=>by have:=h.qa _ e;omega,fun e=>by have:=hNB _ e;omega,h.ab,hN,h.ha,h.inv,h.sQ,by have:=h.few;omega,Nat.zero_le _⟩
theorem Aj {r:Except Int (List Int)}{e:Int}(h:Vf.lmap r=.error e):r=.error e:=by
 cases r with
 | error e'=>cases h;rfl
 | ok st=>cases h
theorem acD {r:Except Int (List Int)}{bs:List UInt8}(h:Vf.lmap r=.ok bs):∃ st,r=.ok st∧bs=st.map Vf.ag:=by
 cases r with
 | error e'=>cases h
 | ok st=>cases h;exact⟨st,rfl,rfl⟩
theorem sS {m:Vf.Md}{u:Vf.Un}{x:Vf.Ins}{k:Vf.Kn}{D:Except Int Vf.S→Prop}{F:Vf.Kn→Except Int Vf.S}(hD:D (Vf.andThen (Vf.rT m u x k) F))(heq:Vf.aN m u x k=Vf.lmap (Vf.jA m u x k)){e:Int}(he:Vf.aN m u x k=.error e):D (.error e):=by
 rw[heq] at he;unfold Vf.rT at hD;rw[Aj he] at hD;exact hD
theorem BD {m:Vf.Md}{u:Vf.Un}{x:Vf.Ins}{k:Vf.Kn}{D:Except Int Vf.S→Prop}{F:Vf.Kn→Except Int Vf.S}(hD:D (Vf.andThen (Vf.rT m u x k) F))(heq:Vf.aN m u x k=Vf.lmap (Vf.jA m u x k)){bs:List UInt8}(he:Vf.aN m u x k=.ok bs):∃ st,bs=st.map Vf.ag∧Vf.rT m u x k=.ok ⟨st,Vf.kV x k.fl⟩∧D (F ⟨st,Vf.kV x k.fl⟩):=by
 rw[heq] at he;obtain⟨st,h1,h2⟩:=acD he;have e:Vf.rT m u x k=.ok ⟨st,Vf.kV x k.fl⟩:=by
  unfold Vf.rT;rw[h1];rfl
 rw[e] at hD;exact⟨st,h2,e,hD⟩
theorem BF {m:Vf.Md}{u:Vf.Un}{x:Vf.Ins}{k:Vf.Kn}(h3:¬ (x.op=3∧k.fl.has x.a.toNat=false))(he:¬ Vf.early u x){p:List UInt8 × List UInt8}(hn:Vf.rQ m u x k.st=.ok p):Vf.aN m u x k=Vf.andThen (Vf.jC p.1.reverse (k.st.map Vf.ag) 0) fun r=>Vf.lG x p.2 r:=by
 unfold Vf.aN;rw[if_neg h3,if_neg he,hn];rfl
def DD (c:FC)(er num:Int)(n f M:Nat)(r:Except Int Vf.S):Prop:=match r with
 | .error e=>er=e∧num=(n:Int)
 | .ok s=>(er,num)=((Vf.si c.m c.u f s).1,((Vf.si c.m c.u f s).2:Int))∧Vf.mu c.u.code.length s≤M
theorem acE {c:FC}{er num:Int}{n f:Nat}{come:Nat→Option Vf.Kn}{row:List Nat}{k:Vf.Kn}{x:Vf.Ins}(hfo:Vf.Forms c.m c.u)(h:(er,num)=((Vf.si c.m c.u (f+1) ⟨come,n :: row⟩).1,((Vf.si c.m c.u (f+1) ⟨come,n :: row⟩).2:Int)))(hk:come n=some k)(hx:c.u.code[n]?=some x) :
  DD c er num n f (Vf.mu c.u.code.length ⟨come,row⟩) (Vf.andThen (Vf.rT c.m c.u x k) fun k'=>Vf.jf c.u.code.length k' (Vf.goes x n) ⟨come,row⟩):=by
 have e:Vf.look c.m c.u n ⟨come,row⟩=Vf.andThen (Vf.rT c.m c.u x k) fun k'=>Vf.jf c.u.code.length k' (Vf.goes x n) ⟨come,row⟩:=by
  unfold Vf.look;simp only[hk,hx]
 rw[← e];cases hl:Vf.look c.m c.u n ⟨come,row⟩ with
 | error u7 =>
  have h2:Vf.si c.m c.u (f+1) ⟨come,n :: row⟩=(u7,n):=by
   unfold Vf.si;simp only;rw[hl]
  rw[h2] at h;cases h;exact⟨rfl,rfl⟩
 | ok s' =>
  have h2:Vf.si c.m c.u (f+1) ⟨come,n :: row⟩=Vf.si c.m c.u f s':=by
   conv=>lhs;unfold Vf.si
   simp only;rw[hl]
  rw[h2] at h;exact⟨h,Vf.OX hfo hl⟩
theorem Ey {m:Vf.Md}{u:Vf.Un}{x:Vf.Ins}(hR:Rt m)(hf:Vf.aA m u x=0):(Vf.needs m u x).1.length≤6∧(Vf.needs m u x).2.length≤1:=by
 have hp:∀ kd,Vf.is m kd x.a=true→(Vf.params m x.a).length≤6:=fun kd hk=>by
  obtain⟨h1,_⟩:=Og hR hk;have:=h1.p6;have:=h1.p0;unfold Vf.params;rw[List.length_take];omega
 obtain⟨_,_,hrg⟩:=yj hf;by_cases h23:x.op=23
 ·have hk:Vf.is m 2 x.a=true:=by
   unfold Vf.ranged at hrg;rw[if_neg (by omega),if_neg (by omega),if_neg (by omega),if_pos h23] at hrg;exact hrg
  have:=hp 2 hk;have e:Vf.needs m u x=((Vf.params m x.a).map Vf.ag,[Vf.ag (Vf.unit m x.a).result]):=by
   unfold Vf.needs;iterate 13 rw[if_neg (by omega)]
   rw[if_pos h23]
  rw[e];exact⟨by simpa using this,by simp⟩
 by_cases yR:x.op=29
 ·have hk:Vf.is m 3 x.a=true:=by
   unfold Vf.ranged at hrg;rw[if_neg (by omega),if_neg (by omega),if_neg (by omega),if_neg (by omega),if_pos yR] at hrg;exact hrg
  have:=hp 3 hk;have e:Vf.needs m u x=((Vf.params m x.a).map Vf.ag,[Vf.ag (10+x.a)]):=by
   unfold Vf.needs;iterate 14 rw[if_neg (by omega)]
   rw[if_pos yR]
  rw[e];exact⟨by simpa using this,by simp⟩
 unfold Vf.needs;rw[if_neg h23,if_neg yR];refine ic (P:=fun p:List UInt8 × List UInt8=>p.1.length≤6∧p.2.length≤1) (fun _=>⟨by simp,by simp⟩) (fun _=>?_);refine ic (P:=fun p:List UInt8 × List UInt8=>p.1.length≤6∧p.2.length≤1) (fun _=>⟨by simp,by simp⟩) (fun _=>?_);refine ic (P:=fun p:List UInt8 × List UInt8=>p.1.length≤6∧p.2.length≤1) (fun _=>⟨by simp,by simp⟩) (fun _=>?_);refine ic (P:=fun p:List UInt8 × List UInt8=>p.1.length≤6∧p.2.length≤1) (fun _=>⟨by simp,by simp⟩) (fun _=>?_);refine ic (P:=fun p:List UInt8 × List UInt8=>p.1.length≤6∧p.2.length≤1) (fun _=>⟨by simp,by simp⟩) (fun _=>?_);refine ic (P:=fun p:List UInt8 × List UInt8=>p.1.length≤6∧p.2.length≤1) (fun _=>⟨by simp,by simp⟩) (fun _=>?_);refine ic (P:=fun p:List UInt8 × List UInt8=>p.1.length≤6∧p.2.length≤1) (fun _=>⟨by simp,by simp⟩) (fun _=>?_);refine ic (P:=fun p:List UInt8 × List UInt8=>p.1.length≤6∧p.2.length≤1) (fun _=>⟨by simp,by simp⟩) (fun _=>?_);refine ic (P:=fun p:List UInt8 × List UInt8=>p.1.length≤6∧p.2.length≤1) (fun _=>⟨by simp,by simp⟩) (fun _=>?_);refine ic (P:=fun p:List UInt8 × List UInt8=>p.1.length≤6∧p.2.length≤1) (fun _=>⟨by simp,by simp⟩) (fun _=>?_);refine ic (P:=fun p:List UInt8 × List UInt8=>p.1.length≤6∧p.2.length≤1) (fun _=>⟨by simp,by simp⟩) (fun _=>?_);refine ic (P:=fun p:List UInt8 × List UInt8=>p.1.length≤6∧p.2.length≤1) (fun _=>⟨by simp,by simp⟩) (fun _=>?_);refine ic (P:=fun p:List UInt8 × List UInt8=>p.1.length≤6∧p.2.length≤1) (fun _=>⟨by simp,by simp⟩) (fun _=>?_);refine ic (P:=fun p:List UInt8 × List UInt8=>p.1.length≤6∧p.2.length≤1) (fun _=>⟨by simp,by simp⟩) (fun _=>?_);refine ic (P:=fun p:List UInt8 × List UInt8=>p.1.length≤6∧p.2.length≤1) (fun _=>⟨by simp,by simp⟩) (fun _=>?_);refine ic (P:=fun p:List UInt8 × List UInt8=>p.1.length≤6∧p.2.length≤1) (fun _=>⟨by simp,by simp⟩) (fun _=>?_);refine ic (P:=fun p:List UInt8 × List UInt8=>p.1.length≤6∧p.2.length≤1) (fun _=>⟨by simp,by simp⟩) (fun _=>⟨by simp,by simp⟩)
theorem zl:∀ (ws st:List UInt8) (last:UInt8) (l:List UInt8),Vf.jC ws st last=.ok l→l.length≤st.length
 | [],st,_,l,h=>by cases h;exact Nat.le_refl _
 | _ :: _,[],_,l,h=>by cases h
 | c :: ws,x :: st,last,l,h=>by
  unfold Vf.jC at h;split at h
  ·have:=zl ws st last l h;simp;omega
  ·split at h
   ·split at h
    ·cases h
    ·have:=zl ws st x l h;simp;omega
   ·split at h
    ·have:=zl ws st last l h;simp;omega
    ·cases h
theorem vV {x:Vf.Ins}{put rest:List UInt8}:Vf.lG x put rest=if 300<(put.reverse++rest).length then .error 4 else if (x.op=24∨x.op=25)∧put.reverse++rest≠[] then .error 12 else .ok (put.reverse++rest):=rfl
theorem Uw {W:World}{o:Obj}{q:Nat}(hq:q=W.heap.size):(W.alloc o).heap[q]?=some o:=by
 subst hq;exact heap_alloc_new W o
end Go.Proofs.YtbdpdjcdhclbfaaGreat
