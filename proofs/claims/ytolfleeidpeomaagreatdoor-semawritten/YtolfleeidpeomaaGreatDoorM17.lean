/- Statements in new memory. -/
import Derived.Test.YtolfleeidpeomaaGreatDoorM14
import Derived.Test.YtolfleeidpeomaaGreatDoorM10
set_option maxRecDepth 100000
set_option maxHeartbeats 4000000
namespace Go.Proofs.YtolfleeidpeomaaGreatDoor
open Go.RowKit
def dO (Q:Nat→Prop)(w:World)(P:Sy.St→Option Addr→Option Addr→Option Addr→Prop)(l:List Sy.St)(a:Option Addr):Prop :=
 ∀ i s,l[i]?=some s→∃ b off xa xc ba bc ea ec,a=some ⟨b,off,none⟩∧Q b ∧
   w.cell? ⟨b,off+i * 8,none⟩=some (.int .i64 s.kind)∧w.cell? ⟨b,off+i * 8+1,none⟩=some (.string s.name) ∧
   w.cell? ⟨b,off+i * 8+2,none⟩=some (.int .i64 s.x.kind)∧w.cell? ⟨b,off+i * 8+3,none⟩=some (.int .i64 s.x.n)∧w.cell? ⟨b,off+i * 8+4,none⟩=some (.string s.x.name) ∧
   w.cell? ⟨b,off+i * 8+5,none⟩=some (.slice xa s.x.kids.length xc)∧w.cell? ⟨b,off+i * 8+6,none⟩=some (.slice ba s.body.length bc) ∧
   w.cell? ⟨b,off+i * 8+7,none⟩=some (.slice ea s.els.length ec)∧P s xa ba ea
def bH (Q:Nat→Prop)(w:World):Nat→Sy.St→Option Addr→Option Addr→Option Addr→Prop
 | 0,_,_,_,_=>False
 | h+1,s,xa,ba,ea=>s.name.size≤6000∧(∃ hx,bK Q w hx s.x xa)∧s.body.length≤6000∧s.els.length≤6000∧dO Q w (bH Q w h) s.body ba∧dO Q w (bH Q w h) s.els ea
theorem dO.keep {Q Q':Nat→Prop}{w w':World}(hk:∀ b,Q b→Q' b∧w'.heap[b]?=w.heap[b]?){P P':Sy.St→Option Addr→Option Addr→Option Addr→Prop}(hP:∀ s x b e,P s x b e→P' s x b e){l:List Sy.St}{a:Option Addr}(h:dO Q w P l a):dO Q' w' P' l a:=fun i s hi=>by
 obtain ⟨b,off,xa,xc,ba,bc,ea,ec,ha,hb,c0,c1,c2,c3,c4,c5,c6,c7,hin⟩:=h i s hi
 have hc:∀ o,w'.cell? ⟨b,o,none⟩=w.cell? ⟨b,o,none⟩:=fun o=>World.cell?_of_block (a:=⟨b,o,none⟩) (hk b hb).2
 exact ⟨b,off,xa,xc,ba,bc,ea,ec,ha,(hk b hb).1,(hc _).trans c0,(hc _).trans c1,(hc _).trans c2,(hc _).trans c3,(hc _).trans c4,(hc _).trans c5,(hc _).trans c6,(hc _).trans c7,hP _ _ _ _ hin⟩
theorem bH.keep {Q Q':Nat→Prop}{w w':World}(hk:∀ b,Q b→Q' b∧w'.heap[b]?=w.heap[b]?):∀ {h:Nat} {s:Sy.St} {xa ba ea:Option Addr},bH Q w h s xa ba ea→bH Q' w' h s xa ba ea
 | 0,_,_,_,_,h=>h
 | _+1,_,_,_,_,⟨h1,⟨hx,h2⟩,h3,h4,h5,h6⟩=>⟨h1,⟨hx,h2.keep hk⟩,h3,h4,h5.keep hk (fun _ _ _ _=>bH.keep hk),h6.keep hk (fun _ _ _ _=>bH.keep hk)⟩
theorem dO.mono {Q:Nat→Prop}{w:World}{P P':Sy.St→Option Addr→Option Addr→Option Addr→Prop}(hP:∀ s x b e,P s x b e→P' s x b e){l:List Sy.St}{a:Option Addr}(h:dO Q w P l a):dO Q w P' l a:=h.keep (fun _ hb=>⟨hb,rfl⟩) hP
theorem bH.up {Q:Nat→Prop}{w:World}:∀ {h h':Nat} {s:Sy.St} {xa ba ea:Option Addr},h≤h'→bH Q w h s xa ba ea→bH Q w h' s xa ba ea
 | 0,_,_,_,_,_,_,hx=>hx.elim
 | _+1,0,_,_,_,_,hh,_=>by omega
 | h+1,h'+1,_,_,_,_,hh,⟨h1,h2,h3,h4,h5,h6⟩=>⟨h1,h2,h3,h4,h5.mono (fun _ _ _ _=>bH.up (by omega)),h6.mono (fun _ _ _ _=>bH.up (by omega))⟩
theorem dO.kL {Q:Nat→Prop}{w:World}{B:Nat}(hQ:∀ b,Q b→b<B){P P':Sy.St→Option Addr→Option Addr→Option Addr→Prop}(hP:∀ s x b e,P s x b e→P' s x b e){l:List Sy.St}{a:Option Addr}(h:dO Q w P l a):lJ B w P' l a:=fun i s hi=>by
 obtain ⟨b,off,xa,xc,ba,bc,ea,ec,ha,hb,r1,r2,r3,r4,r5,r6,r7,r8,hin⟩:=h i s hi
 exact ⟨b,off,xa,xc,ba,bc,ea,ec,ha,hQ b hb,r1,r2,r3,r4,r5,r6,r7,r8,hP _ _ _ _ hin⟩
theorem bH.kL {Q:Nat→Prop}{w:World}{B:Nat}(hQ:∀ b,Q b→b<B):∀ {h:Nat} {s:Sy.St} {xa ba ea:Option Addr},bH Q w h s xa ba ea→cu B w h s xa ba ea
 | 0,_,_,_,_,h=>h
 | _+1,_,_,_,_,⟨h1,⟨hx,h2⟩,h3,h4,h5,h6⟩=>⟨by unfold maxLen;omega,⟨hx,h2.kL hQ⟩,by unfold maxLen;omega,by unfold maxLen;omega,h5.kL hQ (fun _ _ _ _=>bH.kL hQ),h6.kL hQ (fun _ _ _ _=>bH.kL hQ)⟩
theorem dO.nil (Q:Nat→Prop)(w:World)(P:Sy.St→Option Addr→Option Addr→Option Addr→Prop)(a:Option Addr):dO Q w P [] a:=fun i s hi=>by simp at hi
abbrev mh (s:Sy.St) (xa:Option Addr) (xc:Nat) (ba:Option Addr) (bc:Nat) (ea:Option Addr) (ec:Nat):Value :=
 .agg #[.int .i64 s.kind,.string s.name,.int .i64 s.x.kind,.int .i64 s.x.n,.string s.x.name,.slice xa s.x.kids.length xc,.slice ba s.body.length bc,.slice ea s.els.length ec]
def zZ (w:World):World→Sy.St→Value→Prop:=fun w' s v=>∃ xa xc ba bc ea ec h,v=mh s xa xc ba bc ea ec∧bH (gK w w') w' h s xa ba ea
def Hf (w:World):World→List Sy.St→Value→Prop:=fun w' l v=>∃ a c h,v=.slice a l.length c∧l.length≤6000∧dO (gK w w') w' (bH (gK w w') w' h) l a
abbrev iJ (k:Int) (s:ByteArray) (xk xn:Int) (xs:ByteArray) (xv bv ev:Value):Obj:=.cells #[.int .i64 k,.string s,.int .i64 xk,.int .i64 xn,.string xs,xv,bv,ev] 124 (0,0)
abbrev ZS:Obj:=iJ 0 ⟨#[]⟩ 0 0 ⟨#[]⟩ (.slice none 0 0) (.slice none 0 0) (.slice none 0 0)
theorem jE {w:World}{N:Nat}{k xk xn:Int}{s xs:ByteArray}{xv bv ev:Value}(h:w.heap[N]?=some (iJ k s xk xn xs xv bv ev)) :
  (w.cell? ⟨N,0,none⟩=some (.int .i64 k)∧w.cell? ⟨N,1,none⟩=some (.string s)∧w.cell? ⟨N,2,none⟩=some (.int .i64 xk)∧w.cell? ⟨N,3,none⟩=some (.int .i64 xn)∧w.cell? ⟨N,4,none⟩=some (.string xs)∧w.cell? ⟨N,5,none⟩=some xv∧w.cell? ⟨N,6,none⟩=some bv∧w.cell? ⟨N,7,none⟩=some ev) ∧
  w.frozen? ⟨N,0,none⟩=false∧w.frozen? ⟨N,1,none⟩=false∧w.frozen? ⟨N,2,none⟩=false∧w.frozen? ⟨N,3,none⟩=false∧w.frozen? ⟨N,4,none⟩=false∧w.frozen? ⟨N,5,none⟩=false∧w.frozen? ⟨N,6,none⟩=false∧w.frozen? ⟨N,7,none⟩=false:=by
 simp [World.cell?,World.frozen?,h]
abbrev eight (u:World) (N:Nat) (v0 v1 v2 v3 v4 v5 v6 v7:Value):World :=
 (((((((u.setCell ⟨N,0,none⟩ v0).setCell ⟨N,1,none⟩ v1).setCell ⟨N,2,none⟩ v2).setCell ⟨N,3,none⟩ v3).setCell ⟨N,4,none⟩ v4).setCell ⟨N,5,none⟩ v5).setCell ⟨N,6,none⟩ v6).setCell ⟨N,7,none⟩ v7
theorem Di {u:World}{N k:Nat}{v0 v1 v2 v3 v4 v5 v6 v7:Value}(hk:k≠N):(eight u N v0 v1 v2 v3 v4 v5 v6 v7).heap[k]?=u.heap[k]?:=by
 unfold eight
 rw [Below.heap_setCell _ _ _ _ hk,Below.heap_setCell _ _ _ _ hk,Below.heap_setCell _ _ _ _ hk,Below.heap_setCell _ _ _ _ hk,Below.heap_setCell _ _ _ _ hk,Below.heap_setCell _ _ _ _ hk,Below.heap_setCell _ _ _ _ hk,Below.heap_setCell _ _ _ _ hk]
theorem Hg {u:World}{N:Nat}{v0 v1 v2 v3 v4 v5 v6 v7:Value}:(eight u N v0 v1 v2 v3 v4 v5 v6 v7).heap.size=u.heap.size:=by simp only [eight,World.bC]
theorem Hl (w:World)(a:Addr)(u:Value):(w.setCell a u).os=w.os:=rfl
theorem Hm (w:World)(a:Addr)(u:Value):(w.setCell a u).tape=w.tape:=rfl
theorem Ho (w:World)(a:Addr)(u:Value):(w.setCell a u).output=w.output:=rfl
theorem NK {u:World}{N:Nat}{v0 v1 v2 v3 v4 v5 v6 v7:Value}:(eight u N v0 v1 v2 v3 v4 v5 v6 v7).os=u.os:=by simp only [eight,Hl]
theorem NL {u:World}{N:Nat}{v0 v1 v2 v3 v4 v5 v6 v7:Value}:(eight u N v0 v1 v2 v3 v4 v5 v6 v7).tape=u.tape:=by simp only [eight,Hm]
theorem NM {u:World}{N:Nat}{v0 v1 v2 v3 v4 v5 v6 v7:Value}:(eight u N v0 v1 v2 v3 v4 v5 v6 v7).output=u.output:=by simp only [eight,Ho]
abbrev lV (u:World) (S:Nat) (v2 v3 v4 v5:Value):World:=(((u.setCell ⟨S,2,none⟩ v2).setCell ⟨S,3,none⟩ v3).setCell ⟨S,4,none⟩ v4).setCell ⟨S,5,none⟩ v5
theorem uA {u:World}{S k:Nat}{v2 v3 v4 v5:Value}(hk:k≠S):(lV u S v2 v3 v4 v5).heap[k]?=u.heap[k]?:=by
 unfold lV
 rw [Below.heap_setCell _ _ _ _ hk,Below.heap_setCell _ _ _ _ hk,Below.heap_setCell _ _ _ _ hk,Below.heap_setCell _ _ _ _ hk]
theorem NN {u:World}{S:Nat}{v2 v3 v4 v5:Value}:(lV u S v2 v3 v4 v5).os=u.os:=by simp only [lV,Hl]
theorem NQ {u:World}{S:Nat}{v2 v3 v4 v5:Value}:(lV u S v2 v3 v4 v5).tape=u.tape:=by simp only [lV,Hm]
theorem NR {u:World}{S:Nat}{v2 v3 v4 v5:Value}:(lV u S v2 v3 v4 v5).output=u.output:=by simp only [lV,Ho]
theorem yh {u:World}{S:Nat}{v2 v3 v4 v5:Value}:(lV u S v2 v3 v4 v5).heap.size=u.heap.size:=by simp only [lV,World.bC]
theorem NS {u:World}{S:Nat}{k xk xn NT NU:Int}{s xs xs':ByteArray}{xv bv ev NV:Value}(h:u.heap[S]?=some (iJ k s xk xn xs xv bv ev)):(lV u S (.int .i64 NT) (.int .i64 NU) (.string xs') NV).heap[S]?=some (iJ k s NT NU xs' NV bv ev):=by
 unfold lV
 simp only [World.setCell,Array.getElem?_modify,if_true,h,Option.map_some]
 rfl
theorem NW {u:World}{S:Nat}{k xk xn:Int}{s xs:ByteArray}{xv bv ev v:Value}(h:u.heap[S]?=some (iJ k s xk xn xs xv bv ev)):(u.setCell ⟨S,6,none⟩ v).heap[S]?=some (iJ k s xk xn xs xv v ev):=by
 simp only [World.setCell,Array.getElem?_modify,if_true,h,Option.map_some]
 rfl
theorem Dj {w u u':World}{R:Nat}(h:w.grownBy u (some R))(hos:u'.os=u.os)(ht:u'.tape=u.tape)(ho:u'.output=u.output)(hs:u'.heap.size=u.heap.size){N:Nat}(hN:w.heap.size≤N)(hf:∀ k,k≠N→u'.heap[k]?=u.heap[k]?):w.grownBy u' (some R) :=
 ⟨hos.trans h.os,ht.trans h.tape,ho.trans h.output,by rw [hs];exact h.size,fun k hk hn=>(hf k (by omega)).trans (h.block k hk hn)⟩
theorem az.far {E:Env}{w u u':World}{p q:Nat}{op op':Int}(h0:az E w p op)(G:Good E)(h:az E u q op')(hg:w.grownBy u' (some E.R)){N:Nat}(hN:w.heap.size≤N)(hf:∀ k,k≠N→u'.heap[k]?=u.heap[k]?):az E u' q op' :=
 h0.grown G hg ((hf E.R (by have:=h0.lt;omega)).trans h.rd)
theorem nS {E:Env}(G:Good E){w u:World}{p q n:Nat}{op:Int}{s:Sy.St}{xa ba ea:Option Addr}{xc bc ec:Nat}{r:au Sy.St}(h:az E w p op)(hg:w.grownBy u (some E.R))(hd:az E u q op)(hr:r=.ok (q,s))(hQ:bH (fun b=>w.heap.size<b∧b<u.heap.size) u n s xa ba ea) :
  Ends E op w r (zZ w) (.returned (mh s xa xc ba bc ea ec)) (eight u w.heap.size (.int .i64 s.kind) (.string s.name) (.int .i64 s.x.kind) (.int .i64 s.x.n) (.string s.x.name) (.slice xa s.x.kids.length xc) (.slice ba s.body.length bc) (.slice ea s.els.length ec)):=by
 have hg2:=Dj hg (u':=eight u w.heap.size (.int .i64 s.kind) (.string s.name) (.int .i64 s.x.kind) (.int .i64 s.x.n) (.string s.x.name) (.slice xa s.x.kids.length xc) (.slice ba s.body.length bc) (.slice ea s.els.length ec)) NK NL NM Hg (Nat.le_refl _) (fun k hk=>Di hk)
 refine ⟨hg2,?_⟩
 rw [hr]
 refine ⟨⟨_,rfl,xa,xc,ba,bc,ea,ec,n,rfl,hQ.keep (fun b hb=>⟨⟨by omega,by rw [Hg];exact hb.2⟩,Di (by omega)⟩)⟩,az.far h G hd hg2 (Nat.le_refl _) (fun k hk=>Di hk)⟩
theorem bK.on {wa w3 u:World}{N n:Nat}{x:Sy.Ex}{a:Option Addr}(h:bK (gK wa w3) w3 n x a)(hN:N<wa.heap.size)(hs:w3.heap.size≤u.heap.size)(hk:∀ b,wa.heap.size≤b→b<w3.heap.size→u.heap[b]?=w3.heap[b]?):bK (fun b=>N<b∧b<u.heap.size) u n x a :=
 h.keep (fun b hb=>⟨⟨by have:=hb.1;omega,by have:=hb.2;omega⟩,hk b hb.1 hb.2⟩)
theorem dO.on {wa w3 u:World}{N n:Nat}{l:List Sy.St}{a:Option Addr}(h:dO (gK wa w3) w3 (bH (gK wa w3) w3 n) l a)(hN:N<wa.heap.size)(hs:w3.heap.size≤u.heap.size)(hk:∀ b,wa.heap.size≤b→b<w3.heap.size→u.heap[b]?=w3.heap[b]?):dO (fun b=>N<b∧b<u.heap.size) u (bH (fun b=>N<b∧b<u.heap.size) u n) l a :=
 have h2:∀ b,gK wa w3 b→(N<b∧b<u.heap.size)∧u.heap[b]?=w3.heap[b]?:=fun b hb=>⟨⟨by have:=hb.1;omega,by have:=hb.2;omega⟩,hk b hb.1 hb.2⟩
 dO.keep h2 (fun _ _ _ _ hx=>bH.keep h2 hx) h
def NY (E:Env)(d:Nat):Prop:=∀ (kind:Int) (p:Nat) (r:au Sy.St) (w:World),Hid (az E w p (200 - (d:Int)))→p≤E.l.length→Hid (r=Rp.saying E.l E.en d kind p) →
 Calls Tryz.prog 130 #[.pointer (some ⟨E.R,0,none⟩),.int .i64 kind] w fun e w'=>Ends E (200 - (d:Int)) w r (zZ w) e w'
def N7 (E:Env)(d:Nat):Prop:=∀ (kind:Int) (p:Nat) (r:au Sy.St) (w:World),Hid (az E w p (200 - (d:Int)))→p≤E.l.length→Hid (r=Rp.setting E.l E.en d kind p) →
 Calls Tryz.prog 127 #[.pointer (some ⟨E.R,0,none⟩),.int .i64 kind] w fun e w'=>Ends E (200 - (d:Int)) w r (zZ w) e w'
theorem dn (w:World)(o:Obj):(w.alloc o).heap.size=w.heap.size+1:=by simp
theorem bH.plain {Q:Nat→Prop}{w:World}{n:Nat}{k:Int}{s:ByteArray}{x:Sy.Ex}{xa:Option Addr}(hs:s.size≤6000)(hx:bK Q w n x xa):bH Q w 1 ⟨k,s,x,[],[]⟩ xa none none :=
 ⟨hs,⟨n,hx⟩,Nat.zero_le _,Nat.zero_le _,dO.nil _ _ _ _,dO.nil _ _ _ _⟩
theorem XU (E:Env)(G:Good E)(d:Nat)(hX:Hid (nR E d)):NY E d:=by
 intro kind p r w h hp hr
 have hR:=h.out.lt
 obtain ⟨r1,hr1⟩:∃ r1,r1=Rp.ex E.l E.en d p:=⟨_,rfl⟩
 have HR1:=aa hr1
 have aR:Hid (r=Rp.andThen r1 fun q1 x=>Rp.andThen (Rp.want E.l E.en ⟨#[59]⟩ q1) fun q2 _=>.ok (q2,⟨kind,⟨#[]⟩,x,[],[]⟩)):=by rw [hr.out,hr1];rfl
 have HA1:Hid (∀ q x,r1=.ok (q,x)→q≤E.l.length):=fun q x hx=>(Rp.qK E.l E.en d p q x hp (by rw [← hr1,hx])).2
 clear hr1
 go_enter Tryz.func130,Tryz.ntmps130
 go_wp2_with fail
 refine (hX.out p r1 _ (h.out.alloc G _) hp HR1).mono ?_
 rintro e w1 ⟨hg1,hf1⟩
 have ax:Hid (w.grownBy w1 (some E.R)):=ay (dM (eD (Below.refl _ w)) _) hg1
 have HZ1:Hid (w1.heap[w.heap.size]?=some ZS):=aA hg1 (by omega) (heap_alloc_new w ZS)
 have hw1:w.heap.size<w1.heap.size:=lt_of_block HZ1.out
 clear hg1
 cases r1 with
 | error er =>
  obtain ⟨e1,e2⟩:=er
  obtain ⟨rfl,hd1⟩:=hf1
  have HD1:=aa hd1
  have ae:Hid (r=.error (e1,e2)):=aR.out
  clear hd1
  go_wp2
  exact ⟨rfl,ax.out,by rw [ae.out];exact ⟨rfl,HD1.out⟩⟩
 | ok qx =>
  obtain ⟨q1,x⟩:=qx
  obtain ⟨⟨v,rfl,xa,xc,n,rfl,hq⟩,hd1⟩:=hf1
  have HD1:=aa hd1
  have HQ:=aa hq
  have hq1:q1≤E.l.length:=HA1.out q1 x rfl
  obtain ⟨r2,hr2⟩:∃ r2,r2=Rp.want E.l E.en ⟨#[59]⟩ q1:=⟨_,rfl⟩
  have HR2:=aa hr2
  have bI:Hid (r=Rp.andThen r2 fun q2 _=>.ok (q2,⟨kind,⟨#[]⟩,x,[],[]⟩)):=by rw [aR.out,hr2];rfl
  clear hr2 hd1 hq
  go_wp2_with fail
  refine (iW E G q1 _ ⟨#[59]⟩ r2 _ (HD1.out.alloc G _) hq1 HR2).mono ?_
  rintro e w2 ⟨hg2,hf2⟩
  have HG2:Hid (w.grownBy w2 (some E.R)):=ay (dM ax.out _) hg2
  have hs2:=hg2.size
  simp only [dn] at hs2
  have hZ2:w2.heap[w.heap.size]?=some ZS:=aA hg2 (by omega) ((Below.heap_alloc _ _ _ hw1).trans HZ1.out)
  have hX2:w2.heap[w1.heap.size]?=some (iJ kind ⟨#[]⟩ x.kind x.n x.name (.slice xa x.kids.length xc) (.slice none 0 0) (.slice none 0 0)):=aA hg2 (by omega) (heap_alloc_new w1 _)
  have Dk:Hid (bK (fun b=>w.heap.size<b∧b<w2.heap.size) w2 n x xa):=HQ.out.on (by simp) (by omega) (fun b h1 h2=>by simp only [dn] at h1;exact (hg2.block b (by simp only [dn];omega) (by simp;omega)).trans (Below.heap_alloc _ _ _ h2))
  clear hg2
  cases r2 with
  | error er =>
   clear hZ2 hX2
   obtain ⟨e1,e2⟩:=er
   obtain ⟨rfl,hd2⟩:=hf2
   have HD2:=aa hd2
   have ae:Hid (r=.error (e1,e2)):=bI.out
   clear hd2
   go_wp2
   exact ⟨rfl,HG2.out,by rw [ae.out];exact ⟨rfl,HD2.out⟩⟩
  | ok qx =>
   obtain ⟨q2,u2⟩:=qx
   obtain ⟨⟨v,rfl,rfl⟩,hd2⟩:=hf2
   have HD2:=aa hd2
   have ae:Hid (r=.ok (q2,⟨kind,⟨#[]⟩,x,[],[]⟩)):=bI.out
   obtain ⟨⟨z0,z1,z2,z3,z4,z5,z6,z7⟩,y0,y1,y2,y3,y4,y5,y6,y7⟩:=jE hZ2
   obtain ⟨⟨x0,x1,x2,x3,x4,x5,x6,x7⟩,_⟩:=jE hX2
   clear hd2 hZ2 hX2
   go_wp2
   refine bodyPost_ret (v:=mh ⟨kind,⟨#[]⟩,x,[],[]⟩ xa xc none 0 none 0) (by simp [results,Tryz.results130,go_sem,z0,z1,z2,z3,z4,z5,z6,z7]) rfl ?_
   exact nS G h.out HG2.out HD2.out ae.out (bH.plain (by decide) Dk.out)
theorem XV (E:Env)(G:Good E)(d:Nat)(hX:Hid (nR E d)):N7 E d:=by
 intro kind p r w h hp hr
 have hR:=h.out.lt
 obtain ⟨r1,hr1⟩:∃ r1,r1=Rp.name E.l E.en p:=⟨_,rfl⟩
 have HR1:=aa hr1
 have aR:Hid (r=Rp.andThen r1 fun q1 s=>Rp.andThen (Rp.want E.l E.en ⟨#[61]⟩ q1) fun q2 _=>Rp.andThen (Rp.ex E.l E.en d q2) fun q3 x=>Rp.andThen (Rp.want E.l E.en ⟨#[59]⟩ q3) fun q4 _=>.ok (q4,⟨kind,s,x,[],[]⟩)):=by rw [hr.out,hr1];rfl
 have HA1:Hid (∀ q x,r1=.ok (q,x)→q≤E.l.length):=fun q x hx=>(Rp.jX E.l E.en p q x hp (by rw [← hr1,hx])).2
 clear hr1
 go_enter Tryz.func127,Tryz.ntmps127
 go_wp2_with fail
 refine (qO E G p _ r1 _ (h.out.alloc G _) hp HR1).mono ?_
 rintro e w1 ⟨hg1,hf1⟩
 have ax:Hid (w.grownBy w1 (some E.R)):=ay (dM (eD (Below.refl _ w)) _) hg1
 have HZ1:Hid (w1.heap[w.heap.size]?=some ZS):=aA hg1 (by omega) (heap_alloc_new w ZS)
 have hw1:w.heap.size<w1.heap.size:=lt_of_block HZ1.out
 clear hg1
 cases r1 with
 | error er =>
  obtain ⟨e1,e2⟩:=er
  obtain ⟨rfl,hd1⟩:=hf1
  have HD1:=aa hd1
  have ae:Hid (r=.error (e1,e2)):=aR.out
  clear hd1
  go_wp2
  exact ⟨rfl,ax.out,by rw [ae.out];exact ⟨rfl,HD1.out⟩⟩
 | ok qx =>
  obtain ⟨q1,s⟩:=qx
  obtain ⟨⟨v,rfl,rfl,hs⟩,hd1⟩:=hf1
  have HD1:=aa hd1
  have hq1:q1≤E.l.length:=HA1.out q1 s rfl
  obtain ⟨r2,hr2⟩:∃ r2,r2=Rp.want E.l E.en ⟨#[61]⟩ q1:=⟨_,rfl⟩
  have HR2:=aa hr2
  have bI:Hid (r=Rp.andThen r2 fun q2 _=>Rp.andThen (Rp.ex E.l E.en d q2) fun q3 x=>Rp.andThen (Rp.want E.l E.en ⟨#[59]⟩ q3) fun q4 _=>.ok (q4,⟨kind,s,x,[],[]⟩)):=by rw [aR.out,hr2];rfl
  have HA2:Hid (∀ q x,r2=.ok (q,x)→q≤E.l.length):=fun q x hx=>(Rp.eH E.l E.en _ q1 q x hq1 (by rw [← hr2,hx])).2
  clear hr2 hd1
  go_wp2_with fail
  refine (iW E G q1 _ ⟨#[61]⟩ r2 _ (HD1.out.alloc G _) hq1 HR2).mono ?_
  rintro e w2 ⟨hg2,hf2⟩
  have oJ:Hid (w.grownBy w2 (some E.R)):=ay (dM ax.out _) hg2
  have HG2:=oJ
  have hs2:=hg2.size
  simp only [dn] at hs2
  have vY:Hid (w2.heap[w.heap.size]?=some ZS):=aA hg2 (by omega) ((Below.heap_alloc _ _ _ hw1).trans HZ1.out)
  have Hq:Hid (w2.heap[w1.heap.size]?=some (iJ kind s 0 0 ⟨#[]⟩ (.slice none 0 0) (.slice none 0 0) (.slice none 0 0))):=aA hg2 (by omega) (heap_alloc_new w1 _)
  clear hg2
  cases r2 with
  | error er =>
   obtain ⟨e1,e2⟩:=er
   obtain ⟨rfl,hd2⟩:=hf2
   have HD2:=aa hd2
   have ae:Hid (r=.error (e1,e2)):=bI.out
   clear hd2
   go_wp2
   exact ⟨rfl,HG2.out,by rw [ae.out];exact ⟨rfl,HD2.out⟩⟩
  | ok qx =>
   obtain ⟨q2,u2⟩:=qx
   obtain ⟨⟨v,rfl,rfl⟩,hd2⟩:=hf2
   have sH:=aa hd2
   have qb:q2≤E.l.length:=HA2.out q2 u2 rfl
   have vZ:Hid (r=Rp.andThen (Rp.ex E.l E.en d q2) fun q3 x=>Rp.andThen (Rp.want E.l E.en ⟨#[59]⟩ q3) fun q4 _=>.ok (q4,⟨kind,s,x,[],[]⟩)):=bI.out
   clear hd2 bI aR
   obtain ⟨r5,fo⟩:∃ r5,r5=Rp.ex E.l E.en d q2:=⟨_,rfl⟩
   have jN:=aa fo
   have gT:Hid (r=Rp.andThen r5 fun q3 x=>Rp.andThen (Rp.want E.l E.en ⟨#[59]⟩ q3) fun q4 _=>.ok (q4,⟨kind,s,x,[],[]⟩)):=by rw [vZ.out,fo];rfl
   have nT:Hid (∀ q x,r5=.ok (q,x)→q≤E.l.length):=fun q x hx=>(Rp.qK E.l E.en d q2 q x qb (by rw [← fo,hx])).2
   clear fo
   go_wp2_with fail
   refine (hX.out q2 r5 _ sH qb jN).mono ?_
   rintro e w5 ⟨hg5,jF⟩
   have bY:Hid (w.grownBy w5 (some E.R)):=ay oJ.out hg5
   have hs5:=hg5.size
   (try simp only [dn] at hs5)
   have gV:Hid (w5.heap[w.heap.size]?=some ZS):=aA hg5 (by omega) vY.out
   have lU:Hid (w5.heap[w1.heap.size]?=some (iJ kind s 0 0 ⟨#[]⟩ (.slice none 0 0) (.slice none 0 0) (.slice none 0 0))):=aA hg5 (by omega) Hq.out
   clear hg5
   cases r5 with
   | error er =>
    obtain ⟨e1,e2⟩:=er
    obtain ⟨rfl,hd5⟩:=jF
    have HD5:=aa hd5
    have ae:Hid (r=.error (e1,e2)):=gT.out
    clear hd5
    go_wp2
    exact ⟨rfl,bY.out,by rw [ae.out];exact ⟨rfl,HD5.out⟩⟩
   | ok qx =>
    obtain ⟨q5,x⟩:=qx
    obtain ⟨⟨v,rfl,xa,xc,n,rfl,hq⟩,hd5⟩:=jF
    have HD5:=aa hd5
    have HQ:=aa hq
    have qX:q5≤E.l.length:=nT.out q5 x rfl
    obtain ⟨r6,j4⟩:∃ r6,r6=Rp.want E.l E.en ⟨#[59]⟩ q5:=⟨_,rfl⟩
    have sG:=aa j4
    have lQ:Hid (r=Rp.andThen r6 fun q2 _=>.ok (q2,⟨kind,s,x,[],[]⟩)):=by rw [gT.out,j4];rfl
    have wh:Hid (w.grownBy (lV w5 w1.heap.size (.int .i64 x.kind) (.int .i64 x.n) (.string x.name) (.slice xa x.kids.length xc)) (some E.R)):=Dj bY.out NN NQ NR yh (Nat.le_of_lt hw1) (fun k hk=>uA hk)
    have Hr:Hid (az E (lV w5 w1.heap.size (.int .i64 x.kind) (.int .i64 x.n) (.string x.name) (.slice xa x.kids.length xc)) q5 (200 - (d:Int))):=az.far h.out G HD5.out wh.out (Nat.le_of_lt hw1) (fun k hk=>uA hk)
    obtain ⟨⟨x0,x1,x2,x3,x4,x5,x6,x7⟩,f0,f1,f2,f3,f4,f5,f6,f7⟩:=jE lU.out
    clear j4 hd5 hq
    go_wp2_with fail
    refine (iW E G q5 _ ⟨#[59]⟩ r6 _ Hr qX sG).mono ?_
    rintro e w6 ⟨dz,qa⟩
    have iH:Hid (w.grownBy w6 (some E.R)):=ay wh.out dz
    have hs6:=dz.size
    rw [yh] at hs6
    have wm:w6.heap[w.heap.size]?=some ZS:=aA dz (by omega) ((uA (by omega)).trans gV.out)
    have wo:w6.heap[w1.heap.size]?=some (iJ kind s x.kind x.n x.name (.slice xa x.kids.length xc) (.slice none 0 0) (.slice none 0 0)):=aA dz (by omega) (NS lU.out)
    have vP:Hid (bK (fun b=>w.heap.size<b∧b<w6.heap.size) w6 n x xa):=HQ.out.on (by (try simp only [dn]);omega) (by omega) (fun b h1 h2=>by (try simp only [dn] at h1);exact (dz.block b (by rw [yh];omega) (by simp;omega)).trans (uA (by omega)))
    clear dz x0 x1 x2 x3 x4 x5 x6 x7 f0 f1 f2 f3 f4 f5 f6 f7
    cases r6 with
    | error er =>
     clear wm wo
     obtain ⟨e1,e2⟩:=er
     obtain ⟨rfl,hd6⟩:=qa
     have HD6:=aa hd6
     have ae:Hid (r=.error (e1,e2)):=lQ.out
     clear hd6
     go_wp2
     exact ⟨rfl,iH.out,by rw [ae.out];exact ⟨rfl,HD6.out⟩⟩
    | ok qx =>
     obtain ⟨q6,u6⟩:=qx
     obtain ⟨⟨v,rfl,rfl⟩,hd6⟩:=qa
     have HD6:=aa hd6
     have ae:Hid (r=.ok (q6,⟨kind,s,x,[],[]⟩)):=lQ.out
     obtain ⟨⟨z0,z1,z2,z3,z4,z5,z6,z7⟩,y0,y1,y2,y3,y4,y5,y6,y7⟩:=jE wm
     obtain ⟨⟨x0,x1,x2,x3,x4,x5,x6,x7⟩,_⟩:=jE wo
     clear hd6 wm wo
     go_wp2
     refine bodyPost_ret (v:=mh ⟨kind,s,x,[],[]⟩ xa xc none 0 none 0) (by simp [results,Tryz.results127,go_sem,z0,z1,z2,z3,z4,z5,z6,z7]) rfl ?_
     exact nS G h.out iH.out HD6.out ae.out (bH.plain hs vP.out)
def Aa (E:Env)(d:Nat):Prop:=∀ (p:Nat) (r:au (List Sy.St)) (w:World),Hid (az E w p (200 - (d:Int)))→p≤E.l.length→Hid (r=Rp.body E.l E.en d p) →
 Calls Tryz.prog 71 #[.pointer (some ⟨E.R,0,none⟩)] w fun e w'=>Ends E (200 - (d:Int)) w r (Hf w) e w'
def N8 (E:Env)(d:Nat):Prop:=∀ (p:Nat) (r:au Sy.St) (w:World),Hid (az E w p (200 - (d:Int)))→p≤E.l.length→Hid (r=Rp.choice E.l E.en d (Rp.body E.l E.en d) p) →
 Calls Tryz.prog 128 #[.pointer (some ⟨E.R,0,none⟩)] w fun e w'=>Ends E (200 - (d:Int)) w r (zZ w) e w'
theorem bH.full {Q:Nat→Prop}{w:World}{n m o:Nat}{k:Int}{s:ByteArray}{x:Sy.Ex}{b e:List Sy.St}{xa ba ea:Option Addr}(hs:s.size≤6000)(hx:bK Q w n x xa)(hb:dO Q w (bH Q w m) b ba)(he:dO Q w (bH Q w o) e ea)(hbl:b.length≤6000)(hel:e.length≤6000):bH Q w (max m o+1) ⟨k,s,x,b,e⟩ xa ba ea :=
 ⟨hs,⟨n,hx⟩,hbl,hel,hb.mono (fun _ _ _ _=>bH.up (Nat.le_max_left _ _)),he.mono (fun _ _ _ _=>bH.up (Nat.le_max_right _ _))⟩
def Kept (a b:Nat)(w w':World):Prop:=∀ k,a≤k→k<b→w'.heap[k]?=w.heap[k]?
theorem Kept.grown {a b:Nat}{w u u':World}{R:Nat}(h:Kept a b w u)(hg:u.grownBy u' (some R))(hR:R<a)(hb:b≤u.heap.size):Kept a b w u':=fun k h1 h2=>(hg.block k (by omega) (by simp;omega)).trans (h k h1 h2)
theorem Kept.set {a b:Nat}{w u:World}(h:Kept a b w u){p:Addr}(hp:p.block<a∨b≤p.block)(v:Value):Kept a b w (u.setCell p v):=fun k h1 h2=>(Below.heap_setCell _ _ _ _ (by omega)).trans (h k h1 h2)
theorem Kept.new {a b:Nat}{w u:World}(h:Kept a b w u)(hb:b≤u.heap.size)(o:Obj):Kept a b w (u.alloc o):=fun k h1 h2=>(Below.heap_alloc _ _ _ (by omega)).trans (h k h1 h2)
theorem Kept.refl (a b:Nat)(w:World):Kept a b w w:=fun _ _ _=>rfl
theorem Ht {w w1 w2 u:World}{n m o:Nat}{k:Int}{s:ByteArray}{x:Sy.Ex}{b e:List Sy.St}{xa ba ea:Option Addr}(hs:s.size≤6000)(hx:bK (fun b=>w.heap.size<b∧b<w1.heap.size) w1 n x xa)(hb:dO (fun j=>w1.heap.size<j∧j<w2.heap.size) w2 (bH (fun j=>w1.heap.size<j∧j<w2.heap.size) w2 m) b ba)
  (he:dO (fun b=>w.heap.size<b∧b<u.heap.size) u (bH (fun b=>w.heap.size<b∧b<u.heap.size) u o) e ea) (hbl:b.length≤6000) (hel:e.length≤6000) (kx:Kept (w.heap.size+1) w1.heap.size w1 u) (kb:Kept (w1.heap.size+1) w2.heap.size w2 u) (h1:w.heap.size<w1.heap.size) (h2:w1.heap.size≤w2.heap.size) (h3:w2.heap.size≤u.heap.size) :
  bH (fun b=>w.heap.size<b∧b<u.heap.size) u (max m o+1) ⟨k,s,x,b,e⟩ xa ba ea:=by
 have hk2:∀ j,(w1.heap.size<j∧j<w2.heap.size)→(w.heap.size<j∧j<u.heap.size)∧u.heap[j]?=w2.heap[j]?:=fun j hj=>⟨⟨by omega,by omega⟩,kb j hj.1 hj.2⟩
 exact bH.full hs (hx.keep (fun j hj=>⟨⟨hj.1,by omega⟩,kx j hj.1 hj.2⟩)) (dO.keep hk2 (fun _ _ _ _ hx=>bH.keep hk2 hx) hb) he hbl hel
theorem XW (E:Env)(G:Good E)(d:Nat)(hX:Hid (nR E d))(hB:Hid (Aa E d)):N8 E d:=by
 intro p r w h qb hr
 have hR:=h.out.lt
 have vZ:Hid (r=Rp.choice E.l E.en d (Rp.body E.l E.en d) p):=hr
 go_enter Tryz.func128,Tryz.ntmps128
 have sH:Hid (az E (w.alloc ZS) p (200 - (d:Int))):=h.out.alloc G _
 have oJ:Hid (w.grownBy (w.alloc ZS) (some E.R)):=dM (eD (Below.refl _ w)) _
 have vY:Hid ((w.alloc ZS).heap[w.heap.size]?=some ZS):=heap_alloc_new w ZS
 have hNA:w.heap.size<(w.alloc ZS).heap.size:=by simp
 obtain ⟨r1,hr1⟩:∃ r1,r1=Rp.ex E.l E.en d p:=⟨_,rfl⟩
 have HR1:=aa hr1
 have bI:Hid (r=Rp.andThen r1 fun q1 x=>Rp.andThen (Rp.body E.l E.en d q1) fun q2 b=>if tk E.l q2 ⟨#[101,108,115,101]⟩ then Rp.andThen (Rp.body E.l E.en d (q2+1)) fun q3 e=>.ok (q3,⟨3,⟨#[]⟩,x,b,e⟩) else .ok (q2,⟨3,⟨#[]⟩,x,b,[]⟩)):=by rw [vZ.out,hr1];rfl
 have HA1:Hid (∀ q x,r1=.ok (q,x)→q≤E.l.length):=fun q x hx=>(Rp.qK E.l E.en d p q x qb (by rw [← hr1,hx])).2
 clear hr1
 go_wp2_with fail
 refine (hX.out p r1 _ sH qb HR1).mono ?_
 rintro e w1 ⟨hg1,hf1⟩
 have ax:Hid (w.grownBy w1 (some E.R)):=ay oJ.out hg1
 have HZ1:Hid (w1.heap[w.heap.size]?=some ZS):=aA hg1 (by omega) vY.out
 have hw1:w.heap.size<w1.heap.size:=lt_of_block HZ1.out
 clear hg1
 cases r1 with
 | error er =>
  obtain ⟨e1,e2⟩:=er
  obtain ⟨rfl,hd1⟩:=hf1
  have HD1:=aa hd1
  have ae:Hid (r=.error (e1,e2)):=bI.out
  clear hd1
  go_wp2
  exact ⟨rfl,ax.out,by rw [ae.out];exact ⟨rfl,HD1.out⟩⟩
 | ok qx =>
  obtain ⟨q1,x⟩:=qx
  obtain ⟨⟨v,rfl,xa,xc,n,rfl,hq⟩,hd1⟩:=hf1
  have HD1:=aa hd1
  have Dl:Hid (bK (fun b=>w.heap.size<b∧b<w1.heap.size) w1 n x xa):=hq.keep (fun b hb=>⟨⟨by have:=hb.1;omega,hb.2⟩,rfl⟩)
  have hq1:q1≤E.l.length:=HA1.out q1 x rfl
  obtain ⟨r2,hr2⟩:∃ r2,r2=Rp.body E.l E.en d q1:=⟨_,rfl⟩
  have HR2:=aa hr2
  have HE2:Hid (r=Rp.andThen r2 fun q2 b=>if tk E.l q2 ⟨#[101,108,115,101]⟩ then Rp.andThen (Rp.body E.l E.en d (q2+1)) fun q3 e=>.ok (q3,⟨3,⟨#[]⟩,x,b,e⟩) else .ok (q2,⟨3,⟨#[]⟩,x,b,[]⟩)):=by rw [bI.out,hr2];rfl
  have HA2:Hid (∀ q x,r2=.ok (q,x)→q≤E.l.length):=fun q x hx=>(Rp.qL E.l E.en d q1 q x hq1 (by rw [← hr2,hx])).2
  clear hr2 hd1 hq
  go_wp2_with fail
  refine (hB.out q1 r2 _ (aa (HD1.out.alloc G _)) hq1 HR2).mono ?_
  rintro e w2 ⟨hg2,hf2⟩
  have HG2:Hid (w.grownBy w2 (some E.R)):=ay (dM ax.out _) hg2
  have hs2:=hg2.size
  simp only [dn] at hs2
  have HZ2:Hid (w2.heap[w.heap.size]?=some ZS):=aA hg2 (by omega) ((Below.heap_alloc _ _ _ hw1).trans HZ1.out)
  have HS2:Hid (w2.heap[w1.heap.size]?=some (iJ 3 ⟨#[]⟩ x.kind x.n x.name (.slice xa x.kids.length xc) (.slice none 0 0) (.slice none 0 0))):=aA hg2 (by omega) (heap_alloc_new w1 _)
  have Hu:Hid (Kept (w.heap.size+1) w1.heap.size w1 w2):=((Kept.refl _ _ w1).new (Nat.le_refl _) _).grown hg2 (by omega) (by simp)
  clear hg2
  cases r2 with
  | error er =>
   obtain ⟨e1,e2⟩:=er
   obtain ⟨rfl,hd2⟩:=hf2
   have HD2:=aa hd2
   have ae:Hid (r=.error (e1,e2)):=HE2.out
   clear hd2
   go_wp2
   exact ⟨rfl,HG2.out,by rw [ae.out];exact ⟨rfl,HD2.out⟩⟩
  | ok qx =>
   obtain ⟨q2,b⟩:=qx
   obtain ⟨⟨v,rfl,ba,bc,m,rfl,hbl,hrow⟩,hd2⟩:=hf2
   have hq2:q2≤E.l.length:=HA2.out q2 b rfl
   have qY:Hid (dO (fun j=>w1.heap.size<j∧j<w2.heap.size) w2 (bH (fun j=>w1.heap.size<j∧j<w2.heap.size) w2 m) b ba) :=
    have h2:∀ j,gK (w1.alloc (iJ 3 ⟨#[]⟩ x.kind x.n x.name (.slice xa x.kids.length xc) (.slice none 0 0) (.slice none 0 0))) w2 j→(w1.heap.size<j∧j<w2.heap.size)∧w2.heap[j]?=w2.heap[j]?:=fun j hj=>⟨⟨by have:=hj.1;simp only [dn] at this;omega,hj.2⟩,rfl⟩
    dO.keep h2 (fun _ _ _ _ hx=>bH.keep h2 hx) hrow
   have Hw:Hid (w.grownBy (w2.setCell ⟨w1.heap.size,6,none⟩ (.slice ba b.length bc)) (some E.R)):=gD HG2.out (Nat.le_of_lt hw1) _
   have Hy:Hid (az E (w2.setCell ⟨w1.heap.size,6,none⟩ (.slice ba b.length bc)) q2 (200 - (d:Int))):=az.set h.out hd2 G HG2.out (Nat.le_of_lt hw1) _
   have N9:Hid ((w2.setCell ⟨w1.heap.size,6,none⟩ (.slice ba b.length bc)).heap[w1.heap.size]?=some (iJ 3 ⟨#[]⟩ x.kind x.n x.name (.slice xa x.kids.length xc) (.slice ba b.length bc) (.slice none 0 0))):=NW HS2.out
   have Oa:Hid ((w2.setCell ⟨w1.heap.size,6,none⟩ (.slice ba b.length bc)).heap[w.heap.size]?=some ZS):=(Below.heap_setCell _ _ _ _ (by show w.heap.size≠w1.heap.size;omega)).trans HZ2.out
   have Hz:Hid (Kept (w.heap.size+1) w1.heap.size w1 (w2.setCell ⟨w1.heap.size,6,none⟩ (.slice ba b.length bc))):=Hu.out.set (.inr (Nat.le_refl _)) _
   have HY:Hid (Kept (w1.heap.size+1) w2.heap.size w2 (w2.setCell ⟨w1.heap.size,6,none⟩ (.slice ba b.length bc))):=(Kept.refl (w1.heap.size+1) w2.heap.size w2).set (p:=⟨w1.heap.size,6,none⟩) (.inl (Nat.lt_succ_self _)) _
   obtain ⟨⟨x0,x1,x2,x3,x4,x5,x6,x7⟩,f0,f1,f2,f3,f4,f5,f6,f7⟩:=jE HS2.out
   clear hd2 hrow
   obtain ⟨t,ht⟩:∃ t,t=tk E.l q2 ⟨#[101,108,115,101]⟩:=⟨_,rfl⟩
   have HT:=aa ht
   have gy:Hid (r=if t then Rp.andThen (Rp.body E.l E.en d (q2+1)) fun q3 e=>.ok (q3,⟨3,⟨#[]⟩,x,b,e⟩) else .ok (q2,⟨3,⟨#[]⟩,x,b,[]⟩)):=by rw [HE2.out,ht];rfl
   have pY:Hid (t=true→q2+1≤E.l.length):=fun e=>Rp.dY (by rw [← ht];exact e)
   clear ht
   go_wp2_with fail
   refine (ek E G q2 _ ⟨#[101,108,115,101]⟩ t _ _ Hy hq2 HT rfl).mono ?_
   rintro e w3 ⟨rfl,hd3,hg3⟩
   have aK:Hid (w.grownBy w3 (some E.R)):=ay Hw.out hg3
   have HD3:=aa hd3
   have hs3:=hg3.size
   simp only [World.bC] at hs3
   have hZ3:w3.heap[w.heap.size]?=some ZS:=aA hg3 (by omega) Oa.out
   have Dm:w3.heap[w1.heap.size]?=some (iJ 3 ⟨#[]⟩ x.kind x.n x.name (.slice xa x.kids.length xc) (.slice ba b.length bc) (.slice none 0 0)):=aA hg3 (by omega) N9.out
   have Od:Hid (Kept (w.heap.size+1) w1.heap.size w1 w3):=Hz.out.grown hg3 (by omega) (by simp only [World.bC];omega)
   have Oe:Hid (Kept (w1.heap.size+1) w2.heap.size w2 w3):=HY.out.grown hg3 (by omega) (by simp only [World.bC];omega)
   clear hg3 hd3 x0 x1 x2 x3 x4 x5 x6 x7 f0 f1 f2 f3 f4 f5 f6 f7
   cases t with
   | false =>
    have ae:Hid (r=.ok (q2,⟨3,⟨#[]⟩,x,b,[]⟩)):=gy.out
    obtain ⟨⟨z0,z1,z2,z3,z4,z5,z6,z7⟩,y0,y1,y2,y3,y4,y5,y6,y7⟩:=jE hZ3
    obtain ⟨⟨x0,x1,x2,x3,x4,x5,x6,x7⟩,_⟩:=jE Dm
    clear hZ3 Dm
    go_wp2
    refine bodyPost_ret (v:=mh ⟨3,⟨#[]⟩,x,b,[]⟩ xa xc ba bc none 0) (by simp [results,Tryz.results128,go_sem,z0,z1,z2,z3,z4,z5,z6,z7]) rfl ?_
    exact nS G h.out aK.out HD3.out ae.out (Ht (by decide) Dl.out qY.out (dO.nil _ _ (bH _ _ 0) _) hbl (Nat.zero_le _) Od.out Oe.out hw1 (by omega) (by omega))
   | true =>
    have hq3:=pY.out rfl
    obtain ⟨r4,hr4⟩:∃ r4,r4=Rp.body E.l E.en d (q2+1):=⟨_,rfl⟩
    have HR4:=aa hr4
    have gX:Hid (r=Rp.andThen r4 fun q3 e=>.ok (q3,⟨3,⟨#[]⟩,x,b,e⟩)):=by rw [gy.out,hr4];rfl
    have HZ3:=aa hZ3
    have mg:=aa Dm
    clear hr4 hZ3 Dm
    go_wp2_with fail
    refine (hB.out (q2+1) r4 _ HD3 hq3 HR4).mono ?_
    rintro e w4 ⟨hg4,jh⟩
    have aX:Hid (w.grownBy w4 (some E.R)):=ay aK.out hg4
    have hs4:=hg4.size
    have kC:Hid (w4.heap[w.heap.size]?=some ZS):=aA hg4 (by omega) HZ3.out
    have p9:Hid (w4.heap[w1.heap.size]?=some (iJ 3 ⟨#[]⟩ x.kind x.n x.name (.slice xa x.kids.length xc) (.slice ba b.length bc) (.slice none 0 0))):=aA hg4 (by omega) mg.out
    have XX:Hid (Kept (w.heap.size+1) w1.heap.size w1 w4):=Od.out.grown hg4 (by omega) (by omega)
    have XY:Hid (Kept (w1.heap.size+1) w2.heap.size w2 w4):=Oe.out.grown hg4 (by omega) (by omega)
    clear hg4
    cases r4 with
    | error er =>
     obtain ⟨e1,e2⟩:=er
     obtain ⟨rfl,hd4⟩:=jh
     have HD4:=aa hd4
     have ae:Hid (r=.error (e1,e2)):=gX.out
     clear hd4
     go_wp2
     exact ⟨rfl,aX.out,by rw [ae.out];exact ⟨rfl,HD4.out⟩⟩
    | ok qx =>
     obtain ⟨q4,el⟩:=qx
     obtain ⟨⟨v,rfl,ea,ec,o,rfl,hel,hrow4⟩,hd4⟩:=jh
     have ae:Hid (r=.ok (q4,⟨3,⟨#[]⟩,x,b,el⟩)):=gX.out
     have H5:Hid (w.grownBy (w4.setCell ⟨w1.heap.size,7,none⟩ (.slice ea el.length ec)) (some E.R)):=gD aX.out (Nat.le_of_lt hw1) _
     have XZ:Hid (az E (w4.setCell ⟨w1.heap.size,7,none⟩ (.slice ea el.length ec)) q4 (200 - (d:Int))):=az.set h.out hd4 G aX.out (Nat.le_of_lt hw1) _
     have X3:Hid (dO (fun j=>w.heap.size<j∧j<(w4.setCell ⟨w1.heap.size,7,none⟩ (.slice ea el.length ec)).heap.size) (w4.setCell ⟨w1.heap.size,7,none⟩ (.slice ea el.length ec)) (bH (fun j=>w.heap.size<j∧j<(w4.setCell ⟨w1.heap.size,7,none⟩ (.slice ea el.length ec)).heap.size) (w4.setCell ⟨w1.heap.size,7,none⟩ (.slice ea el.length ec)) o) el ea) :=
      dO.on hrow4 (by omega) (by simp only [World.bC];exact Nat.le_refl _) (fun j h1 h2=>Below.heap_setCell _ _ _ _ (by show j≠w1.heap.size;omega))
     have X4:Hid (Kept (w.heap.size+1) w1.heap.size w1 (w4.setCell ⟨w1.heap.size,7,none⟩ (.slice ea el.length ec))):=XX.out.set (.inr (Nat.le_refl _)) _
     have X5:Hid (Kept (w1.heap.size+1) w2.heap.size w2 (w4.setCell ⟨w1.heap.size,7,none⟩ (.slice ea el.length ec))):=XY.out.set (p:=⟨w1.heap.size,7,none⟩) (.inl (Nat.lt_succ_self _)) _
     obtain ⟨⟨z0,z1,z2,z3,z4,z5,z6,z7⟩,y0,y1,y2,y3,y4,y5,y6,y7⟩:=jE kC.out
     obtain ⟨⟨x0,x1,x2,x3,x4,x5,x6,x7⟩,f0,f1,f2,f3,f4,f5,f6,f7⟩:=jE p9.out
     have hne:w.heap.size≠w1.heap.size:=by omega
     clear hd4 hrow4
     go_wp2
     refine bodyPost_ret (v:=mh ⟨3,⟨#[]⟩,x,b,el⟩ xa xc ba bc ea ec) (by simp [results,Tryz.results128,go_sem,z0,z1,z2,z3,z4,z5,z6,z7]) rfl ?_
     exact nS G h.out H5.out XZ.out ae.out (Ht (by decide) Dl.out qY.out X3.out hbl hel X4.out X5.out hw1 (by omega) (by simp only [World.bC];omega))
def Og (E:Env)(d:Nat):Prop:=∀ (p:Nat) (r:au Sy.St) (w:World),Hid (az E w p (200 - (d:Int)))→p≤E.l.length→Hid (r=Rp.stat E.l E.en d (Rp.body E.l E.en d) p) →
 Calls Tryz.prog 106 #[.pointer (some ⟨E.R,0,none⟩)] w fun e w'=>Ends E (200 - (d:Int)) w r (zZ w) e w'
theorem X6 (E:Env)(G:Good E)(d:Nat)(hX:Hid (nR E d))(hB:Hid (Aa E d))(hS:Hid (N7 E d))(hY:Hid (NY E d))(hC:Hid (N8 E d)):Og E d:=by
 intro p r w h hp hr
 have hR:=h.out.lt
 go_enter Tryz.func106,Tryz.ntmps106
 have aY:Hid (w.grownBy (w.alloc ZS) (some E.R)):=dM (eD (Below.refl _ w)) _
 have HD0:Hid (az E (w.alloc ZS) p (200 - (d:Int))):=h.out.alloc G _
 have HZ0:Hid ((w.alloc ZS).heap[w.heap.size]?=some ZS):=heap_alloc_new w ZS
 cases h1:tk E.l p ⟨#[108,101,116]⟩ with
 | true =>
  have hp1:p+1≤E.l.length:=Rp.dY h1
  go_wp2_with fail
  refine (ek E G p _ ⟨#[108,101,116]⟩ true (p+1) _ HD0 hp (aa h1.symm) rfl).mono ?_
  rintro e v1 ⟨rfl,hd1,hg1⟩
  have ax:Hid (w.grownBy v1 (some E.R)):=ay aY.out hg1
  have HZ1:Hid (v1.heap[w.heap.size]?=some ZS):=aA hg1 (by omega) HZ0.out
  have HD1:=aa hd1
  have hv1:w.heap.size<v1.heap.size:=lt_of_block HZ1.out
  clear hd1 hg1
  have gF:Hid (r=Rp.setting E.l E.en d 1 (p+1)):=by unfold Hid;rw [hr.out];unfold Rp.stat;rw [h1];rfl
  go_wp2_with fail
  refine (hS.out 1 (p+1) r _ HD1 hp1 gF).mono ?_
  rintro e w8 ⟨aL,bL⟩
  have lh:Hid (w.grownBy w8 (some E.R)):=ay ax.out aL
  have bz:w8.heap[w.heap.size]?=some ZS:=aA aL (by omega) HZ1.out
  cases r with
  | error er =>
   obtain ⟨e1,e2⟩:=er
   obtain ⟨rfl,aD⟩:=bL
   have aS:=aa aD
   clear aD aL bz
   go_wp2
   exact ⟨rfl,lh.out,rfl,aS.out⟩
  | ok qx =>
   obtain ⟨q,s⟩:=qx
   obtain ⟨⟨v,rfl,xa,xc,ba,bc,ea,ec,n,rfl,hq⟩,aD⟩:=bL
   have aS:=aa aD
   have HQ:Hid (bH (fun b=>w.heap.size<b∧b<w8.heap.size) w8 n s xa ba ea):=hq.keep (fun b hb=>⟨⟨by have:=hb.1;omega,hb.2⟩,rfl⟩)
   obtain ⟨⟨z0,z1,z2,z3,z4,z5,z6,z7⟩,y0,y1,y2,y3,y4,y5,y6,y7⟩:=jE bz
   clear aD aL hq bz
   go_wp2
   refine bodyPost_ret (v:=mh s xa xc ba bc ea ec) (by simp [results,Tryz.results106,go_sem,z0,z1,z2,z3,z4,z5,z6,z7]) rfl ?_
   exact nS G h.out lh.out aS.out rfl HQ.out
 | false =>
  go_wp2_with fail
  refine (ek E G p _ ⟨#[108,101,116]⟩ false p _ HD0 hp (aa h1.symm) rfl).mono ?_
  rintro e v1 ⟨rfl,hd1,hg1⟩
  have ax:Hid (w.grownBy v1 (some E.R)):=ay aY.out hg1
  have HZ1:Hid (v1.heap[w.heap.size]?=some ZS):=aA hg1 (by omega) HZ0.out
  have HD1:=aa hd1
  have hv1:w.heap.size<v1.heap.size:=lt_of_block HZ1.out
  clear hd1 hg1
  cases h2:tk E.l p ⟨#[105,102]⟩ with
  | true =>
   have hp1:p+1≤E.l.length:=Rp.dY h2
   go_wp2_with fail
   refine (ek E G p _ ⟨#[105,102]⟩ true (p+1) _ HD1 hp (aa h2.symm) rfl).mono ?_
   rintro e v2 ⟨rfl,hd2,hg2⟩
   have HG2:Hid (w.grownBy v2 (some E.R)):=ay ax.out hg2
   have HZ2:Hid (v2.heap[w.heap.size]?=some ZS):=aA hg2 (by omega) HZ1.out
   have HD2:=aa hd2
   have hv2:w.heap.size<v2.heap.size:=lt_of_block HZ2.out
   clear hd2 hg2
   have gF:Hid (r=Rp.choice E.l E.en d (Rp.body E.l E.en d) (p+1)):=by unfold Hid;rw [hr.out];unfold Rp.stat;rw [h1,h2];rfl
   go_wp2_with fail
   refine (hC.out (p+1) r _ HD2 hp1 gF).mono ?_
   rintro e w8 ⟨aL,bL⟩
   have lh:Hid (w.grownBy w8 (some E.R)):=ay HG2.out aL
   have bz:w8.heap[w.heap.size]?=some ZS:=aA aL (by omega) HZ2.out
   cases r with
   | error er =>
    obtain ⟨e1,e2⟩:=er
    obtain ⟨rfl,aD⟩:=bL
    have aS:=aa aD
    clear aD aL bz
    go_wp2
    exact ⟨rfl,lh.out,rfl,aS.out⟩
   | ok qx =>
    obtain ⟨q,s⟩:=qx
    obtain ⟨⟨v,rfl,xa,xc,ba,bc,ea,ec,n,rfl,hq⟩,aD⟩:=bL
    have aS:=aa aD
    have HQ:Hid (bH (fun b=>w.heap.size<b∧b<w8.heap.size) w8 n s xa ba ea):=hq.keep (fun b hb=>⟨⟨by have:=hb.1;omega,hb.2⟩,rfl⟩)
    obtain ⟨⟨z0,z1,z2,z3,z4,z5,z6,z7⟩,y0,y1,y2,y3,y4,y5,y6,y7⟩:=jE bz
    clear aD aL hq bz
    go_wp2
    refine bodyPost_ret (v:=mh s xa xc ba bc ea ec) (by simp [results,Tryz.results106,go_sem,z0,z1,z2,z3,z4,z5,z6,z7]) rfl ?_
    exact nS G h.out lh.out aS.out rfl HQ.out
  | false =>
   go_wp2_with fail
   refine (ek E G p _ ⟨#[105,102]⟩ false p _ HD1 hp (aa h2.symm) rfl).mono ?_
   rintro e v2 ⟨rfl,hd2,hg2⟩
   have HG2:Hid (w.grownBy v2 (some E.R)):=ay ax.out hg2
   have HZ2:Hid (v2.heap[w.heap.size]?=some ZS):=aA hg2 (by omega) HZ1.out
   have HD2:=aa hd2
   have hv2:w.heap.size<v2.heap.size:=lt_of_block HZ2.out
   clear hd2 hg2
   cases h3:tk E.l p ⟨#[119,104,105,108,101]⟩ with
   | true =>
    have hp1:p+1≤E.l.length:=Rp.dY h3
    go_wp2_with fail
    refine (ek E G p _ ⟨#[119,104,105,108,101]⟩ true (p+1) _ HD2 hp (aa h3.symm) rfl).mono ?_
    rintro e v3 ⟨rfl,hd3,hg3⟩
    have aK:Hid (w.grownBy v3 (some E.R)):=ay HG2.out hg3
    have HZ3:Hid (v3.heap[w.heap.size]?=some ZS):=aA hg3 (by omega) HZ2.out
    have HD3:=aa hd3
    have hv3:w.heap.size<v3.heap.size:=lt_of_block HZ3.out
    clear hd3 hg3
    have vZ:Hid (r=Rp.xP E.l E.en d (Rp.body E.l E.en d) (p+1)):=by unfold Hid;rw [hr.out];unfold Rp.stat;rw [h1,h2,h3];rfl
    have sH:=HD3
    have oJ:=aK
    have vY:=HZ3
    have qb:=hp1
    obtain ⟨r1,hr1⟩:∃ r1,r1=Rp.ex E.l E.en d (p+1):=⟨_,rfl⟩
    have HR1:=aa hr1
    have bI:Hid (r=Rp.andThen r1 fun q1 x=>Rp.andThen (Rp.body E.l E.en d q1) fun q2 b=>.ok (q2,⟨4,⟨#[]⟩,x,b,[]⟩)):=by rw [vZ.out,hr1];rfl
    have HA1:Hid (∀ q x,r1=.ok (q,x)→q≤E.l.length):=fun q x hx=>(Rp.qK E.l E.en d (p+1) q x qb (by rw [← hr1,hx])).2
    clear hr1
    go_wp2_with fail
    refine (hX.out (p+1) r1 _ sH qb HR1).mono ?_
    rintro e w1 ⟨hg1,hf1⟩
    have ax:Hid (w.grownBy w1 (some E.R)):=ay oJ.out hg1
    have HZ1:Hid (w1.heap[w.heap.size]?=some ZS):=aA hg1 (by omega) vY.out
    have hw1:w.heap.size<w1.heap.size:=lt_of_block HZ1.out
    clear hg1
    cases r1 with
    | error er =>
     obtain ⟨e1,e2⟩:=er
     obtain ⟨rfl,hd1⟩:=hf1
     have HD1:=aa hd1
     have ae:Hid (r=.error (e1,e2)):=bI.out
     clear hd1
     go_wp2
     exact ⟨rfl,ax.out,by rw [ae.out];exact ⟨rfl,HD1.out⟩⟩
    | ok qx =>
     obtain ⟨q1,x⟩:=qx
     obtain ⟨⟨v,rfl,xa,xc,n,rfl,hq⟩,hd1⟩:=hf1
     have HD1:=aa hd1
     have Dl:Hid (bK (fun b=>w.heap.size<b∧b<w1.heap.size) w1 n x xa):=hq.keep (fun b hb=>⟨⟨by have:=hb.1;omega,hb.2⟩,rfl⟩)
     have hq1:q1≤E.l.length:=HA1.out q1 x rfl
     obtain ⟨r2,hr2⟩:∃ r2,r2=Rp.body E.l E.en d q1:=⟨_,rfl⟩
     have HR2:=aa hr2
     have HE2:Hid (r=Rp.andThen r2 fun q2 b=>.ok (q2,⟨4,⟨#[]⟩,x,b,[]⟩)):=by rw [bI.out,hr2];rfl
     have HA2:Hid (∀ q x,r2=.ok (q,x)→q≤E.l.length):=fun q x hx=>(Rp.qL E.l E.en d q1 q x hq1 (by rw [← hr2,hx])).2
     clear hr2 hd1 hq
     go_wp2_with fail
     refine (hB.out q1 r2 _ (aa (HD1.out.alloc G _)) hq1 HR2).mono ?_
     rintro e w2 ⟨hg2,hf2⟩
     have HG2:Hid (w.grownBy w2 (some E.R)):=ay (dM ax.out _) hg2
     have hs2:=hg2.size
     simp only [dn] at hs2
     have HZ2:Hid (w2.heap[w.heap.size]?=some ZS):=aA hg2 (by omega) ((Below.heap_alloc _ _ _ hw1).trans HZ1.out)
     have HS2:Hid (w2.heap[w1.heap.size]?=some (iJ 4 ⟨#[]⟩ x.kind x.n x.name (.slice xa x.kids.length xc) (.slice none 0 0) (.slice none 0 0))):=aA hg2 (by omega) (heap_alloc_new w1 _)
     have Hu:Hid (Kept (w.heap.size+1) w1.heap.size w1 w2):=((Kept.refl _ _ w1).new (Nat.le_refl _) _).grown hg2 (by omega) (by simp)
     clear hg2
     cases r2 with
     | error er =>
      obtain ⟨e1,e2⟩:=er
      obtain ⟨rfl,hd2⟩:=hf2
      have HD2:=aa hd2
      have ae:Hid (r=.error (e1,e2)):=HE2.out
      clear hd2
      go_wp2
      exact ⟨rfl,HG2.out,by rw [ae.out];exact ⟨rfl,HD2.out⟩⟩
     | ok qx =>
      obtain ⟨q2,b⟩:=qx
      obtain ⟨⟨v,rfl,ba,bc,m,rfl,hbl,hrow⟩,hd2⟩:=hf2
      have hq2:q2≤E.l.length:=HA2.out q2 b rfl
      have qY:Hid (dO (fun j=>w1.heap.size<j∧j<w2.heap.size) w2 (bH (fun j=>w1.heap.size<j∧j<w2.heap.size) w2 m) b ba) :=
       have h2:∀ j,gK (w1.alloc (iJ 4 ⟨#[]⟩ x.kind x.n x.name (.slice xa x.kids.length xc) (.slice none 0 0) (.slice none 0 0))) w2 j→(w1.heap.size<j∧j<w2.heap.size)∧w2.heap[j]?=w2.heap[j]?:=fun j hj=>⟨⟨by have:=hj.1;simp only [dn] at this;omega,hj.2⟩,rfl⟩
       dO.keep h2 (fun _ _ _ _ hx=>bH.keep h2 hx) hrow
      have Hw:Hid (w.grownBy (w2.setCell ⟨w1.heap.size,6,none⟩ (.slice ba b.length bc)) (some E.R)):=gD HG2.out (Nat.le_of_lt hw1) _
      have Hy:Hid (az E (w2.setCell ⟨w1.heap.size,6,none⟩ (.slice ba b.length bc)) q2 (200 - (d:Int))):=az.set h.out hd2 G HG2.out (Nat.le_of_lt hw1) _
      have N9:Hid ((w2.setCell ⟨w1.heap.size,6,none⟩ (.slice ba b.length bc)).heap[w1.heap.size]?=some (iJ 4 ⟨#[]⟩ x.kind x.n x.name (.slice xa x.kids.length xc) (.slice ba b.length bc) (.slice none 0 0))):=NW HS2.out
      have Oa:Hid ((w2.setCell ⟨w1.heap.size,6,none⟩ (.slice ba b.length bc)).heap[w.heap.size]?=some ZS):=(Below.heap_setCell _ _ _ _ (by show w.heap.size≠w1.heap.size;omega)).trans HZ2.out
      have Hz:Hid (Kept (w.heap.size+1) w1.heap.size w1 (w2.setCell ⟨w1.heap.size,6,none⟩ (.slice ba b.length bc))):=Hu.out.set (.inr (Nat.le_refl _)) _
      have HY:Hid (Kept (w1.heap.size+1) w2.heap.size w2 (w2.setCell ⟨w1.heap.size,6,none⟩ (.slice ba b.length bc))):=(Kept.refl (w1.heap.size+1) w2.heap.size w2).set (p:=⟨w1.heap.size,6,none⟩) (.inl (Nat.lt_succ_self _)) _
      obtain ⟨⟨x0,x1,x2,x3,x4,x5,x6,x7⟩,f0,f1,f2,f3,f4,f5,f6,f7⟩:=jE HS2.out
      clear hd2 hrow
      have ae:Hid (r=.ok (q2,⟨4,⟨#[]⟩,x,b,[]⟩)):=HE2.out
      obtain ⟨⟨z0,z1,z2,z3,z4,z5,z6,z7⟩,y0,y1,y2,y3,y4,y5,y6,y7⟩:=jE HZ2.out
      have hne:w.heap.size≠w1.heap.size:=by omega
      go_wp2
      refine bodyPost_ret (v:=mh ⟨4,⟨#[]⟩,x,b,[]⟩ xa xc ba bc none 0) (by simp [results,Tryz.results106,go_sem,z0,z1,z2,z3,z4,z5,z6,z7]) rfl ?_
      exact nS G h.out Hw.out Hy.out ae.out (Ht (by decide) Dl.out qY.out (dO.nil _ _ (bH _ _ 0) _) hbl (Nat.zero_le _) Hz.out HY.out hw1 (by omega) (by simp only [World.bC];omega))
   | false =>
    go_wp2_with fail
    refine (ek E G p _ ⟨#[119,104,105,108,101]⟩ false p _ HD2 hp (aa h3.symm) rfl).mono ?_
    rintro e v3 ⟨rfl,hd3,hg3⟩
    have aK:Hid (w.grownBy v3 (some E.R)):=ay HG2.out hg3
    have HZ3:Hid (v3.heap[w.heap.size]?=some ZS):=aA hg3 (by omega) HZ2.out
    have HD3:=aa hd3
    have hv3:w.heap.size<v3.heap.size:=lt_of_block HZ3.out
    clear hd3 hg3
    cases h4:tk E.l p ⟨#[115,116,111,112]⟩ with
    | true =>
     have hp1:p+1≤E.l.length:=Rp.dY h4
     go_wp2_with fail
     refine (ek E G p _ ⟨#[115,116,111,112]⟩ true (p+1) _ HD3 hp (aa h4.symm) rfl).mono ?_
     rintro e v4 ⟨rfl,hd4,hg4⟩
     have aX:Hid (w.grownBy v4 (some E.R)):=ay aK.out hg4
     have kC:Hid (v4.heap[w.heap.size]?=some ZS):=aA hg4 (by omega) HZ3.out
     have HD4:=aa hd4
     have hv4:w.heap.size<v4.heap.size:=lt_of_block kC.out
     clear hd4 hg4
     obtain ⟨r9,iI⟩:∃ r9,r9=Rp.want E.l E.en ⟨#[59]⟩ (p+1):=⟨_,rfl⟩
     have gF:=aa iI
     have lg:Hid (r=Rp.andThen r9 fun q _=>.ok (q,⟨6,⟨#[]⟩,Rp.X0,[],[]⟩)):=by unfold Hid;rw [hr.out];unfold Rp.stat;rw [h1,h2,h3,h4,iI];rfl
     clear iI
     go_wp2_with fail
     refine (iW E G (p+1) _ ⟨#[59]⟩ r9 _ HD4 hp1 gF).mono ?_
     rintro e w8 ⟨aL,bL⟩
     have bT:Hid (w.grownBy w8 (some E.R)):=ay aX.out aL
     have bz:w8.heap[w.heap.size]?=some ZS:=aA aL (by omega) kC.out
     clear aL
     cases r9 with
     | error er =>
      clear bz
      obtain ⟨e1,e2⟩:=er
      obtain ⟨rfl,aD⟩:=bL
      have aS:=aa aD
      have ae:Hid (r=.error (e1,e2)):=lg.out
      clear aD
      go_wp2
      exact ⟨rfl,bT.out,by rw [ae.out];exact ⟨rfl,aS.out⟩⟩
     | ok qx =>
      obtain ⟨q,u⟩:=qx
      obtain ⟨⟨v,rfl,rfl⟩,aD⟩:=bL
      have aS:=aa aD
      have ae:Hid (r=.ok (q,⟨6,⟨#[]⟩,Rp.X0,[],[]⟩)):=lg.out
      obtain ⟨⟨z0,z1,z2,z3,z4,z5,z6,z7⟩,y0,y1,y2,y3,y4,y5,y6,y7⟩:=jE bz
      clear aD bz
      go_wp2
      refine bodyPost_ret (v:=mh ⟨6,⟨#[]⟩,Rp.X0,[],[]⟩ none 0 none 0 none 0) (by simp [results,Tryz.results106,go_sem,z0,z1,z2,z3,z4,z5,z6,z7]) rfl ?_
      exact nS G h.out bT.out aS.out ae.out (bH.plain (by decide) (bK.leaf _ _ _ _ _ (by decide) _))
    | false =>
     go_wp2_with fail
     refine (ek E G p _ ⟨#[115,116,111,112]⟩ false p _ HD3 hp (aa h4.symm) rfl).mono ?_
     rintro e v4 ⟨rfl,hd4,hg4⟩
     have aX:Hid (w.grownBy v4 (some E.R)):=ay aK.out hg4
     have kC:Hid (v4.heap[w.heap.size]?=some ZS):=aA hg4 (by omega) HZ3.out
     have HD4:=aa hd4
     have hv4:w.heap.size<v4.heap.size:=lt_of_block kC.out
     clear hd4 hg4
     cases h5:tk E.l p ⟨#[115,101,110,100]⟩ with
     | true =>
      have hp1:p+1≤E.l.length:=Rp.dY h5
      go_wp2_with fail
      refine (ek E G p _ ⟨#[115,101,110,100]⟩ true (p+1) _ HD4 hp (aa h5.symm) rfl).mono ?_
      rintro e v5 ⟨rfl,hd5,hg5⟩
      have bY:Hid (w.grownBy v5 (some E.R)):=ay aX.out hg5
      have gV:Hid (v5.heap[w.heap.size]?=some ZS):=aA hg5 (by omega) kC.out
      have HD5:=aa hd5
      have hv5:w.heap.size<v5.heap.size:=lt_of_block gV.out
      clear hd5 hg5
      obtain ⟨r1,hr1⟩:∃ r1,r1=Rp.name E.l E.en (p+1):=⟨_,rfl⟩
      have HR1:=aa hr1
      have aR:Hid (r=Rp.andThen r1 fun q1 s=>Rp.andThen (Rp.ex E.l E.en d q1) fun q2 x=>Rp.andThen (Rp.want E.l E.en ⟨#[59]⟩ q2) fun q3 _=>.ok (q3,⟨7,s,x,[],[]⟩)):=by unfold Hid;rw [hr.out];unfold Rp.stat;rw [h1,h2,h3,h4,h5,hr1];rfl
      have HA1:Hid (∀ q x,r1=.ok (q,x)→q≤E.l.length):=fun q x hx=>(Rp.jX E.l E.en (p+1) q x hp1 (by rw [← hr1,hx])).2
      clear hr1
      go_wp2_with fail
      refine (qO E G (p+1) _ r1 _ HD5 hp1 HR1).mono ?_
      rintro e w1 ⟨hg1,hf1⟩
      have ax:Hid (w.grownBy w1 (some E.R)):=ay bY.out hg1
      have HZ1:Hid (w1.heap[w.heap.size]?=some ZS):=aA hg1 (by omega) gV.out
      have hw1:w.heap.size<w1.heap.size:=lt_of_block HZ1.out
      clear hg1
      cases r1 with
      | error er =>
       obtain ⟨e1,e2⟩:=er
       obtain ⟨rfl,hd1⟩:=hf1
       have HD1:=aa hd1
       have ae:Hid (r=.error (e1,e2)):=aR.out
       clear hd1
       go_wp2
       exact ⟨rfl,ax.out,by rw [ae.out];exact ⟨rfl,HD1.out⟩⟩
      | ok qx =>
       obtain ⟨q1,s⟩:=qx
       obtain ⟨⟨v,rfl,rfl,hs⟩,hd1⟩:=hf1
       have qb:q1≤E.l.length:=HA1.out q1 s rfl
       have sH:Hid (az E (w1.alloc (iJ 7 s 0 0 ⟨#[]⟩ (.slice none 0 0) (.slice none 0 0) (.slice none 0 0))) q1 (200 - (d:Int))):=hd1.alloc G _
       have oJ:Hid (w.grownBy (w1.alloc (iJ 7 s 0 0 ⟨#[]⟩ (.slice none 0 0) (.slice none 0 0) (.slice none 0 0))) (some E.R)):=dM ax.out _
       have vY:Hid ((w1.alloc (iJ 7 s 0 0 ⟨#[]⟩ (.slice none 0 0) (.slice none 0 0) (.slice none 0 0))).heap[w.heap.size]?=some ZS):=(Below.heap_alloc _ _ _ hw1).trans HZ1.out
       have Hq:Hid ((w1.alloc (iJ 7 s 0 0 ⟨#[]⟩ (.slice none 0 0) (.slice none 0 0) (.slice none 0 0))).heap[w1.heap.size]?=some (iJ 7 s 0 0 ⟨#[]⟩ (.slice none 0 0) (.slice none 0 0) (.slice none 0 0))):=heap_alloc_new w1 _
       have vZ:Hid (r=Rp.andThen (Rp.ex E.l E.en d q1) fun q3 x=>Rp.andThen (Rp.want E.l E.en ⟨#[59]⟩ q3) fun q4 _=>.ok (q4,⟨7,s,x,[],[]⟩)):=aR.out
       clear hd1 aR
       obtain ⟨r5,fo⟩:∃ r5,r5=Rp.ex E.l E.en d q1:=⟨_,rfl⟩
       have jN:=aa fo
       have gT:Hid (r=Rp.andThen r5 fun q3 x=>Rp.andThen (Rp.want E.l E.en ⟨#[59]⟩ q3) fun q4 _=>.ok (q4,⟨7,s,x,[],[]⟩)):=by rw [vZ.out,fo];rfl
       have nT:Hid (∀ q x,r5=.ok (q,x)→q≤E.l.length):=fun q x hx=>(Rp.qK E.l E.en d q1 q x qb (by rw [← fo,hx])).2
       clear fo
       go_wp2_with fail
       refine (hX.out q1 r5 _ sH qb jN).mono ?_
       rintro e w5 ⟨hg5,jF⟩
       have bY:Hid (w.grownBy w5 (some E.R)):=ay oJ.out hg5
       have hs5:=hg5.size
       (try simp only [dn] at hs5)
       have gV:Hid (w5.heap[w.heap.size]?=some ZS):=aA hg5 (by omega) vY.out
       have lU:Hid (w5.heap[w1.heap.size]?=some (iJ 7 s 0 0 ⟨#[]⟩ (.slice none 0 0) (.slice none 0 0) (.slice none 0 0))):=aA hg5 (by omega) Hq.out
       clear hg5
       cases r5 with
       | error er =>
        obtain ⟨e1,e2⟩:=er
        obtain ⟨rfl,hd5⟩:=jF
        have HD5:=aa hd5
        have ae:Hid (r=.error (e1,e2)):=gT.out
        clear hd5
        go_wp2
        exact ⟨rfl,bY.out,by rw [ae.out];exact ⟨rfl,HD5.out⟩⟩
       | ok qx =>
        obtain ⟨q5,x⟩:=qx
        obtain ⟨⟨v,rfl,xa,xc,n,rfl,hq⟩,hd5⟩:=jF
        have HD5:=aa hd5
        have HQ:=aa hq
        have qX:q5≤E.l.length:=nT.out q5 x rfl
        obtain ⟨r6,j4⟩:∃ r6,r6=Rp.want E.l E.en ⟨#[59]⟩ q5:=⟨_,rfl⟩
        have sG:=aa j4
        have lQ:Hid (r=Rp.andThen r6 fun q2 _=>.ok (q2,⟨7,s,x,[],[]⟩)):=by rw [gT.out,j4];rfl
        have wh:Hid (w.grownBy (lV w5 w1.heap.size (.int .i64 x.kind) (.int .i64 x.n) (.string x.name) (.slice xa x.kids.length xc)) (some E.R)):=Dj bY.out NN NQ NR yh (Nat.le_of_lt hw1) (fun k hk=>uA hk)
        have Hr:Hid (az E (lV w5 w1.heap.size (.int .i64 x.kind) (.int .i64 x.n) (.string x.name) (.slice xa x.kids.length xc)) q5 (200 - (d:Int))):=az.far h.out G HD5.out wh.out (Nat.le_of_lt hw1) (fun k hk=>uA hk)
        obtain ⟨⟨x0,x1,x2,x3,x4,x5,x6,x7⟩,f0,f1,f2,f3,f4,f5,f6,f7⟩:=jE lU.out
        clear j4 hd5 hq
        go_wp2_with fail
        refine (iW E G q5 _ ⟨#[59]⟩ r6 _ Hr qX sG).mono ?_
        rintro e w6 ⟨dz,qa⟩
        have iH:Hid (w.grownBy w6 (some E.R)):=ay wh.out dz
        have hs6:=dz.size
        rw [yh] at hs6
        have wm:w6.heap[w.heap.size]?=some ZS:=aA dz (by omega) ((uA (by omega)).trans gV.out)
        have wo:w6.heap[w1.heap.size]?=some (iJ 7 s x.kind x.n x.name (.slice xa x.kids.length xc) (.slice none 0 0) (.slice none 0 0)):=aA dz (by omega) (NS lU.out)
        have vP:Hid (bK (fun b=>w.heap.size<b∧b<w6.heap.size) w6 n x xa):=HQ.out.on (by (try simp only [dn]);omega) (by omega) (fun b h1 h2=>by (try simp only [dn] at h1);exact (dz.block b (by rw [yh];omega) (by simp;omega)).trans (uA (by omega)))
        clear dz x0 x1 x2 x3 x4 x5 x6 x7 f0 f1 f2 f3 f4 f5 f6 f7
        cases r6 with
        | error er =>
         clear wm wo
         obtain ⟨e1,e2⟩:=er
         obtain ⟨rfl,hd6⟩:=qa
         have HD6:=aa hd6
         have ae:Hid (r=.error (e1,e2)):=lQ.out
         clear hd6
         go_wp2
         exact ⟨rfl,iH.out,by rw [ae.out];exact ⟨rfl,HD6.out⟩⟩
        | ok qx =>
         obtain ⟨q6,u6⟩:=qx
         obtain ⟨⟨v,rfl,rfl⟩,hd6⟩:=qa
         have HD6:=aa hd6
         have ae:Hid (r=.ok (q6,⟨7,s,x,[],[]⟩)):=lQ.out
         obtain ⟨⟨z0,z1,z2,z3,z4,z5,z6,z7⟩,y0,y1,y2,y3,y4,y5,y6,y7⟩:=jE wm
         obtain ⟨⟨x0,x1,x2,x3,x4,x5,x6,x7⟩,_⟩:=jE wo
         clear hd6 wm wo
         go_wp2
         refine bodyPost_ret (v:=mh ⟨7,s,x,[],[]⟩ xa xc none 0 none 0) (by simp [results,Tryz.results106,go_sem,z0,z1,z2,z3,z4,z5,z6,z7]) rfl ?_
         exact nS G h.out iH.out HD6.out ae.out (bH.plain hs vP.out)
     | false =>
      go_wp2_with fail
      refine (ek E G p _ ⟨#[115,101,110,100]⟩ false p _ HD4 hp (aa h5.symm) rfl).mono ?_
      rintro e v5 ⟨rfl,hd5,hg5⟩
      have bY:Hid (w.grownBy v5 (some E.R)):=ay aX.out hg5
      have gV:Hid (v5.heap[w.heap.size]?=some ZS):=aA hg5 (by omega) kC.out
      have HD5:=aa hd5
      have hv5:w.heap.size<v5.heap.size:=lt_of_block gV.out
      clear hd5 hg5
      cases h6:tk E.l p ⟨#[114,101,116,117,114,110]⟩ with
      | true =>
       have hp1:p+1≤E.l.length:=Rp.dY h6
       go_wp2_with fail
       refine (ek E G p _ ⟨#[114,101,116,117,114,110]⟩ true (p+1) _ HD5 hp (aa h6.symm) rfl).mono ?_
       rintro e v6 ⟨rfl,hd6,dz⟩
       have iH:Hid (w.grownBy v6 (some E.R)):=ay bY.out dz
       have lS:Hid (v6.heap[w.heap.size]?=some ZS):=aA dz (by omega) gV.out
       have HD6:=aa hd6
       have hv6:w.heap.size<v6.heap.size:=lt_of_block lS.out
       clear hd6 dz
       have gF:Hid (r=Rp.saying E.l E.en d 5 (p+1)):=by unfold Hid;rw [hr.out];unfold Rp.stat;rw [h1,h2,h3,h4,h5,h6];rfl
       go_wp2_with fail
       refine (hY.out 5 (p+1) r _ HD6 hp1 gF).mono ?_
       rintro e w8 ⟨aL,bL⟩
       have lh:Hid (w.grownBy w8 (some E.R)):=ay iH.out aL
       have bz:w8.heap[w.heap.size]?=some ZS:=aA aL (by omega) lS.out
       cases r with
       | error er =>
        obtain ⟨e1,e2⟩:=er
        obtain ⟨rfl,aD⟩:=bL
        have aS:=aa aD
        clear aD aL bz
        go_wp2
        exact ⟨rfl,lh.out,rfl,aS.out⟩
       | ok qx =>
        obtain ⟨q,s⟩:=qx
        obtain ⟨⟨v,rfl,xa,xc,ba,bc,ea,ec,n,rfl,hq⟩,aD⟩:=bL
        have aS:=aa aD
        have HQ:Hid (bH (fun b=>w.heap.size<b∧b<w8.heap.size) w8 n s xa ba ea):=hq.keep (fun b hb=>⟨⟨by have:=hb.1;omega,hb.2⟩,rfl⟩)
        obtain ⟨⟨z0,z1,z2,z3,z4,z5,z6,z7⟩,y0,y1,y2,y3,y4,y5,y6,y7⟩:=jE bz
        clear aD aL hq bz
        go_wp2
        refine bodyPost_ret (v:=mh s xa xc ba bc ea ec) (by simp [results,Tryz.results106,go_sem,z0,z1,z2,z3,z4,z5,z6,z7]) rfl ?_
        exact nS G h.out lh.out aS.out rfl HQ.out
      | false =>
       go_wp2_with fail
       refine (ek E G p _ ⟨#[114,101,116,117,114,110]⟩ false p _ HD5 hp (aa h6.symm) rfl).mono ?_
       rintro e v6 ⟨rfl,hd6,dz⟩
       have iH:Hid (w.grownBy v6 (some E.R)):=ay bY.out dz
       have lS:Hid (v6.heap[w.heap.size]?=some ZS):=aA dz (by omega) gV.out
       have HD6:=aa hd6
       have hv6:w.heap.size<v6.heap.size:=lt_of_block lS.out
       clear hd6 dz
       cases h7:tk E.l p ⟨#[111,117,116]⟩ with
       | true =>
        have hp1:p+1≤E.l.length:=Rp.dY h7
        go_wp2_with fail
        refine (ek E G p _ ⟨#[111,117,116]⟩ true (p+1) _ HD6 hp (aa h7.symm) rfl).mono ?_
        rintro e v7 ⟨rfl,hd7,ig⟩
        have kY:Hid (w.grownBy v7 (some E.R)):=ay iH.out ig
        have mR:Hid (v7.heap[w.heap.size]?=some ZS):=aA ig (by omega) lS.out
        have HD7:=aa hd7
        have hv7:w.heap.size<v7.heap.size:=lt_of_block mR.out
        clear hd7 ig
        have gF:Hid (r=Rp.saying E.l E.en d 8 (p+1)):=by unfold Hid;rw [hr.out];unfold Rp.stat;rw [h1,h2,h3,h4,h5,h6,h7];rfl
        go_wp2_with fail
        refine (hY.out 8 (p+1) r _ HD7 hp1 gF).mono ?_
        rintro e w8 ⟨aL,bL⟩
        have lh:Hid (w.grownBy w8 (some E.R)):=ay kY.out aL
        have bz:w8.heap[w.heap.size]?=some ZS:=aA aL (by omega) mR.out
        cases r with
        | error er =>
         obtain ⟨e1,e2⟩:=er
         obtain ⟨rfl,aD⟩:=bL
         have aS:=aa aD
         clear aD aL bz
         go_wp2
         exact ⟨rfl,lh.out,rfl,aS.out⟩
        | ok qx =>
         obtain ⟨q,s⟩:=qx
         obtain ⟨⟨v,rfl,xa,xc,ba,bc,ea,ec,n,rfl,hq⟩,aD⟩:=bL
         have aS:=aa aD
         have HQ:Hid (bH (fun b=>w.heap.size<b∧b<w8.heap.size) w8 n s xa ba ea):=hq.keep (fun b hb=>⟨⟨by have:=hb.1;omega,hb.2⟩,rfl⟩)
         obtain ⟨⟨z0,z1,z2,z3,z4,z5,z6,z7⟩,y0,y1,y2,y3,y4,y5,y6,y7⟩:=jE bz
         clear aD aL hq bz
         go_wp2
         refine bodyPost_ret (v:=mh s xa xc ba bc ea ec) (by simp [results,Tryz.results106,go_sem,z0,z1,z2,z3,z4,z5,z6,z7]) rfl ?_
         exact nS G h.out lh.out aS.out rfl HQ.out
       | false =>
        go_wp2_with fail
        refine (ek E G p _ ⟨#[111,117,116]⟩ false p _ HD6 hp (aa h7.symm) rfl).mono ?_
        rintro e v7 ⟨rfl,hd7,ig⟩
        have kY:Hid (w.grownBy v7 (some E.R)):=ay iH.out ig
        have mR:Hid (v7.heap[w.heap.size]?=some ZS):=aA ig (by omega) lS.out
        have HD7:=aa hd7
        have hv7:w.heap.size<v7.heap.size:=lt_of_block mR.out
        clear hd7 ig
        cases h8:tk E.l p ⟨#[100,111]⟩ with
        | true =>
         have hp1:p+1≤E.l.length:=Rp.dY h8
         go_wp2_with fail
         refine (ek E G p _ ⟨#[100,111]⟩ true (p+1) _ HD7 hp (aa h8.symm) rfl).mono ?_
         rintro e v8 ⟨rfl,aD,aL⟩
         have bT:Hid (w.grownBy v8 (some E.R)):=ay kY.out aL
         have mQ:Hid (v8.heap[w.heap.size]?=some ZS):=aA aL (by omega) mR.out
         have aS:=aa aD
         have X7:w.heap.size<v8.heap.size:=lt_of_block mQ.out
         clear aD aL
         have gF:Hid (r=Rp.saying E.l E.en d 9 (p+1)):=by unfold Hid;rw [hr.out];unfold Rp.stat;rw [h1,h2,h3,h4,h5,h6,h7,h8];rfl
         go_wp2_with fail
         refine (hY.out 9 (p+1) r _ aS hp1 gF).mono ?_
         rintro e w8 ⟨aL,bL⟩
         have lh:Hid (w.grownBy w8 (some E.R)):=ay bT.out aL
         have bz:w8.heap[w.heap.size]?=some ZS:=aA aL (by omega) mQ.out
         cases r with
         | error er =>
          obtain ⟨e1,e2⟩:=er
          obtain ⟨rfl,aD⟩:=bL
          have aS:=aa aD
          clear aD aL bz
          go_wp2
          exact ⟨rfl,lh.out,rfl,aS.out⟩
         | ok qx =>
          obtain ⟨q,s⟩:=qx
          obtain ⟨⟨v,rfl,xa,xc,ba,bc,ea,ec,n,rfl,hq⟩,aD⟩:=bL
          have aS:=aa aD
          have HQ:Hid (bH (fun b=>w.heap.size<b∧b<w8.heap.size) w8 n s xa ba ea):=hq.keep (fun b hb=>⟨⟨by have:=hb.1;omega,hb.2⟩,rfl⟩)
          obtain ⟨⟨z0,z1,z2,z3,z4,z5,z6,z7⟩,y0,y1,y2,y3,y4,y5,y6,y7⟩:=jE bz
          clear aD aL hq bz
          go_wp2
          refine bodyPost_ret (v:=mh s xa xc ba bc ea ec) (by simp [results,Tryz.results106,go_sem,z0,z1,z2,z3,z4,z5,z6,z7]) rfl ?_
          exact nS G h.out lh.out aS.out rfl HQ.out
        | false =>
         go_wp2_with fail
         refine (ek E G p _ ⟨#[100,111]⟩ false p _ HD7 hp (aa h8.symm) rfl).mono ?_
         rintro e v8 ⟨rfl,aD,aL⟩
         have bT:Hid (w.grownBy v8 (some E.R)):=ay kY.out aL
         have mQ:Hid (v8.heap[w.heap.size]?=some ZS):=aA aL (by omega) mR.out
         have aS:=aa aD
         have X7:w.heap.size<v8.heap.size:=lt_of_block mQ.out
         clear aD aL
         have gF:Hid (r=Rp.setting E.l E.en d 2 p):=by unfold Hid;rw [hr.out];unfold Rp.stat;rw [h1,h2,h3,h4,h5,h6,h7,h8];rfl
         go_wp2_with fail
         refine (hS.out 2 p r _ aS hp gF).mono ?_
         rintro e w8 ⟨aL,bL⟩
         have lh:Hid (w.grownBy w8 (some E.R)):=ay bT.out aL
         have bz:w8.heap[w.heap.size]?=some ZS:=aA aL (by omega) mQ.out
         cases r with
         | error er =>
          obtain ⟨e1,e2⟩:=er
          obtain ⟨rfl,aD⟩:=bL
          have aS:=aa aD
          clear aD aL bz
          go_wp2
          exact ⟨rfl,lh.out,rfl,aS.out⟩
         | ok qx =>
          obtain ⟨q,s⟩:=qx
          obtain ⟨⟨v,rfl,xa,xc,ba,bc,ea,ec,n,rfl,hq⟩,aD⟩:=bL
          have aS:=aa aD
          have HQ:Hid (bH (fun b=>w.heap.size<b∧b<w8.heap.size) w8 n s xa ba ea):=hq.keep (fun b hb=>⟨⟨by have:=hb.1;omega,hb.2⟩,rfl⟩)
          obtain ⟨⟨z0,z1,z2,z3,z4,z5,z6,z7⟩,y0,y1,y2,y3,y4,y5,y6,y7⟩:=jE bz
          clear aD aL hq bz
          go_wp2
          refine bodyPost_ret (v:=mh s xa xc ba bc ea ec) (by simp [results,Tryz.results106,go_sem,z0,z1,z2,z3,z4,z5,z6,z7]) rfl ?_
          exact nS G h.out lh.out aS.out rfl HQ.out
end Go.Proofs.YtolfleeidpeomaaGreatDoor
