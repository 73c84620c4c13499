/- Definitions in new memory. -/
import Derived.Test.YtolfleeidpeomaaGreatDoorM18
set_option maxRecDepth 100000
set_option maxHeartbeats 4000000
namespace Go.Proofs.YtolfleeidpeomaaGreatDoor
open Go.RowKit
def mi (Q:Nat→Prop)(w:World)(d:Sy.Df)(pa ba:Option Addr):Prop :=
 d.name.size≤6000∧d.ty.gen.size≤6000∧d.takes.gen.size≤6000∧lW Q w d.params pa∧d.body.length≤6000∧∃ h,dO Q w (bH Q w h) d.body ba
theorem mi.keep {Q Q':Nat→Prop}{w w':World}(hk:∀ b,Q b→Q' b∧w'.heap[b]?=w.heap[b]?){d:Sy.Df}{pa ba:Option Addr}(h:mi Q w d pa ba):mi Q' w' d pa ba :=
 ⟨h.1,h.2.1,h.2.2.1,h.2.2.2.1.keep hk,h.2.2.2.2.1,h.2.2.2.2.2.elim fun n hn=>⟨n,dO.keep hk (fun _ _ _ _ hx=>bH.keep hk hx) hn⟩⟩
theorem mi.kL {Q:Nat→Prop}{w:World}{B:Nat}(hQ:∀ b,Q b→b<B){d:Sy.Df}{pa ba:Option Addr}(h:mi Q w d pa ba):jL B w d pa ba :=
 ⟨by have:=h.1;unfold maxLen;omega,by have:=h.2.1;unfold maxLen;omega,by have:=h.2.2.1;unfold maxLen;omega,h.2.2.2.1.kL hQ,h.2.2.2.2.2.elim fun n hn=>⟨n,by have:=h.2.2.2.2.1;unfold maxLen;omega,hn.kL hQ (fun _ _ _ _ hx=>bH.kL hQ hx)⟩⟩
theorem lW.nil (Q:Nat→Prop)(w:World)(a:Option Addr):lW Q w [] a:=⟨Nat.zero_le _,fun i p hi=>by simp at hi⟩
abbrev sJ (d:Sy.Df) (pa:Option Addr) (pc:Nat) (ba:Option Addr) (bc:Nat):Value :=
 .agg #[.int .i64 d.kind,.string d.name,.int .i64 d.ty.kind,.string d.ty.gen,.int .i64 d.takes.kind,.string d.takes.gen,.int .i64 d.cap,.slice pa d.params.length pc,.slice ba d.body.length bc]
def Af (w:World):World→Sy.Df→Value→Prop:=fun w' d v=>∃ pa pc ba bc,v=sJ d pa pc ba bc∧mi (gK w w') w' d pa ba
abbrev cK (k:Int) (s:ByteArray) (tk:Int) (tg:ByteArray) (uk:Int) (ug:ByteArray) (c:Int) (pv bv:Value):Obj:=.cells #[.int .i64 k,.string s,.int .i64 tk,.string tg,.int .i64 uk,.string ug,.int .i64 c,pv,bv] 50 (0,0)
abbrev dh:Obj:=cK 0 ⟨#[]⟩ 0 ⟨#[]⟩ 0 ⟨#[]⟩ 0 (.slice none 0 0) (.slice none 0 0)
theorem kM {w:World}{N:Nat}{k tk uk c:Int}{s tg ug:ByteArray}{pv bv:Value}(h:w.heap[N]?=some (cK k s tk tg uk ug c pv bv)) :
  (w.cell? ⟨N,0,none⟩=some (.int .i64 k)∧w.cell? ⟨N,1,none⟩=some (.string s)∧w.cell? ⟨N,2,none⟩=some (.int .i64 tk)∧w.cell? ⟨N,3,none⟩=some (.string tg)∧w.cell? ⟨N,4,none⟩=some (.int .i64 uk)∧w.cell? ⟨N,5,none⟩=some (.string ug)∧w.cell? ⟨N,6,none⟩=some (.int .i64 c)∧w.cell? ⟨N,7,none⟩=some pv∧w.cell? ⟨N,8,none⟩=some bv) ∧
  w.frozen? ⟨N,0,none⟩=false∧w.frozen? ⟨N,1,none⟩=false∧w.frozen? ⟨N,2,none⟩=false∧w.frozen? ⟨N,3,none⟩=false∧w.frozen? ⟨N,4,none⟩=false∧w.frozen? ⟨N,5,none⟩=false∧w.frozen? ⟨N,6,none⟩=false∧w.frozen? ⟨N,7,none⟩=false∧w.frozen? ⟨N,8,none⟩=false:=by
 simp [World.cell?,World.frozen?,h]
section
variable {u:World} {S:Nat} {k tk uk c:Int} {s tg ug:ByteArray} {pv bv:Value}
theorem H8 (h:u.heap[S]?=some (cK k s tk tg uk ug c pv bv))(OE:Int)(OG:ByteArray):((u.setCell ⟨S,2,none⟩ (.int .i64 OE)).setCell ⟨S,3,none⟩ (.string OG)).heap[S]?=some (cK k s OE OG uk ug c pv bv):=by
 simp only [World.setCell,Array.getElem?_modify,if_true,h,Option.map_some]
 rfl
theorem YC (h:u.heap[S]?=some (cK k s tk tg uk ug c pv bv))(OH:Int)(OI:ByteArray):((u.setCell ⟨S,4,none⟩ (.int .i64 OH)).setCell ⟨S,5,none⟩ (.string OI)).heap[S]?=some (cK k s tk tg OH OI c pv bv):=by
 simp only [World.setCell,Array.getElem?_modify,if_true,h,Option.map_some]
 rfl
theorem YD (h:u.heap[S]?=some (cK k s tk tg uk ug c pv bv))(c':Int):(u.setCell ⟨S,6,none⟩ (.int .i64 c')).heap[S]?=some (cK k s tk tg uk ug c' pv bv):=by
 simp only [World.setCell,Array.getElem?_modify,if_true,h,Option.map_some]
 rfl
theorem OJ (h:u.heap[S]?=some (cK k s tk tg uk ug c pv bv))(v:Value):(u.setCell ⟨S,7,none⟩ v).heap[S]?=some (cK k s tk tg uk ug c v bv):=by
 simp only [World.setCell,Array.getElem?_modify,if_true,h,Option.map_some]
 rfl
theorem H9 (h:u.heap[S]?=some (cK k s tk tg uk ug c pv bv))(v:Value):(u.setCell ⟨S,8,none⟩ v).heap[S]?=some (cK k s tk tg uk ug c pv v):=by
 simp only [World.setCell,Array.getElem?_modify,if_true,h,Option.map_some]
 rfl
end
abbrev nine (u:World) (N:Nat) (v0 v1 v2 v3 v4 v5 v6 v7 v8:Value):World:=(eight u N v0 v1 v2 v3 v4 v5 v6 v7).setCell ⟨N,8,none⟩ v8
theorem Dr {u:World}{N k:Nat}{v0 v1 v2 v3 v4 v5 v6 v7 v8:Value}(hk:k≠N):(nine u N v0 v1 v2 v3 v4 v5 v6 v7 v8).heap[k]?=u.heap[k]?:=(Below.heap_setCell _ _ _ _ hk).trans (Di hk)
theorem OL {u:World}{N:Nat}{v0 v1 v2 v3 v4 v5 v6 v7 v8:Value}:(nine u N v0 v1 v2 v3 v4 v5 v6 v7 v8).heap.size=u.heap.size:=(World.bC _ _ _).trans Hg
theorem wC {E:Env}(G:Good E){w u:World}{p q:Nat}{op:Int}{d:Sy.Df}{pa ba:Option Addr}{pc bc:Nat}{r:au Sy.Df}(h:az E w p op)(hg:w.grownBy u (some E.R))(hd:az E u q op)(hr:r=.ok (q,d))(hQ:mi (fun b=>w.heap.size<b∧b<u.heap.size) u d pa ba) :
  Ends E op w r (Af w) (.returned (sJ d pa pc ba bc)) (nine u w.heap.size (.int .i64 d.kind) (.string d.name) (.int .i64 d.ty.kind) (.string d.ty.gen) (.int .i64 d.takes.kind) (.string d.takes.gen) (.int .i64 d.cap) (.slice pa d.params.length pc) (.slice ba d.body.length bc)):=by
 have hg2:=Dj hg (u':=nine u w.heap.size (.int .i64 d.kind) (.string d.name) (.int .i64 d.ty.kind) (.string d.ty.gen) (.int .i64 d.takes.kind) (.string d.takes.gen) (.int .i64 d.cap) (.slice pa d.params.length pc) (.slice ba d.body.length bc)) ((Hl _ _ _).trans NK) ((Hm _ _ _).trans NL) ((Ho _ _ _).trans NM) OL (Nat.le_refl _) (fun k hk=>Dr hk)
 refine ⟨hg2,?_⟩
 rw [hr]
 exact ⟨⟨_,rfl,pa,pc,ba,bc,rfl,hQ.keep (fun b hb=>⟨⟨by omega,by rw [OL];exact hb.2⟩,Dr (by omega)⟩)⟩,az.far h G hd hg2 (Nat.le_refl _) (fun k hk=>Dr hk)⟩
theorem lW.later {N:Nat}{w3 u:World}{a b:Nat}{l:List Sy.Pm}{pa:Option Addr}(h:lW (fun j=>a≤j∧j<b) w3 l pa)(hk:Kept a b w3 u)(hN:N<a)(hb:b≤u.heap.size):lW (fun j=>N<j∧j<u.heap.size) u l pa :=
 h.keep (fun j hj=>⟨⟨by omega,by omega⟩,hk j hj.1 hj.2⟩)
theorem dO.later {N n:Nat}{w3 u:World}{a b:Nat}{l:List Sy.St}{pa:Option Addr}(h:dO (fun j=>a≤j∧j<b) w3 (bH (fun j=>a≤j∧j<b) w3 n) l pa)(hk:Kept a b w3 u)(hN:N<a)(hb:b≤u.heap.size):dO (fun j=>N<j∧j<u.heap.size) u (bH (fun j=>N<j∧j<u.heap.size) u n) l pa :=
 have h2:∀ j,(a≤j∧j<b)→(N<j∧j<u.heap.size)∧u.heap[j]?=w3.heap[j]?:=fun j hj=>⟨⟨by omega,by omega⟩,hk j hj.1 hj.2⟩
 dO.keep h2 (fun _ _ _ _ hx=>bH.keep h2 hx) h
def Dt (E:Env)(op:Int):Prop:=∀ (p:Nat) (r:au (List Sy.St)) (w:World),Hid (az E w p op)→p≤E.l.length→Hid (r=Rp.body E.l E.en 200 p) →
 Calls Tryz.prog 71 #[.pointer (some ⟨E.R,0,none⟩)] w fun e w'=>Ends E op w r (Hf w) e w'
theorem YE (E:Env)(G:Good E):Dt E 0:=Oj E G 200 (Nat.le_refl _)
def uC (E:Env)(op:Int)(f:FuncId)(R:Nat→au Sy.Df):Prop:=∀ (p:Nat) (r:au Sy.Df) (w:World),Hid (az E w p op)→p≤E.l.length→Hid (r=R p) →
 Calls Tryz.prog f #[.pointer (some ⟨E.R,0,none⟩)] w fun e w'=>Ends E op w r (Af w) e w'
theorem YF (E:Env)(G:Good E)(op:Int):uC E op 66 (Rp.box E.l E.en):=by
 intro p r w h hp hr
 have hR:=h.out.lt
 have aR:Hid (r=Rp.box E.l E.en p):=hr
 go_enter Tryz.func66,Tryz.ntmps66
 have aY:Hid (w.grownBy (w.alloc dh) (some E.R)):=dM (eD (Below.refl _ w)) _
 have HD0:Hid (az E (w.alloc dh) p op):=h.out.alloc G _
 have HZ0:Hid ((w.alloc dh).heap[w.heap.size]?=some dh):=heap_alloc_new w dh
 obtain ⟨r1,hr1⟩:∃ r1,r1=Rp.want E.l E.en ⟨#[98,111,120]⟩ p:=⟨_,rfl⟩
 have HR1:=aa hr1
 have bI:Hid (r=Rp.andThen r1 fun q1 _=>Rp.andThen (Rp.name E.l E.en q1) fun q2 s=>Rp.andThen (Rp.typ E.l E.en q2) fun q3 t=>Rp.andThen (Rp.places E.l E.en q3) fun q4 n=>Rp.andThen (Rp.want E.l E.en ⟨#[59]⟩ q4) fun q5 _=>.ok (q5,⟨1,s,t,Rp.T0,n,[],[]⟩)):=by rw [aR.out,hr1];rfl
 have HA1:Hid (∀ q x,r1=.ok (q,x)→q≤E.l.length):=fun q x hx=>(Rp.eH E.l E.en _ p q x hp (by rw [← hr1,hx])).2
 clear hr1
 go_wp2_with fail
 refine (iW E G p _ ⟨#[98,111,120]⟩ r1 _ HD0 hp HR1).mono ?_
 rintro e w1 ⟨hg1,hf1⟩
 have ax:Hid (w.grownBy w1 (some E.R)):=ay aY.out hg1
 have hs1:=hg1.size
 (try simp only [dn] at hs1)
 (try simp only [World.bC] at hs1)
 have HZ1:Hid (w1.heap[w.heap.size]?=some dh):=aA hg1 (by omega) HZ0.out
 clear hg1
 cases r1 with
 | error er =>
  obtain ⟨e1,e2⟩:=er
  obtain ⟨rfl,hd1⟩:=hf1
  have HD1:=aa hd1
  have ae:Hid (r=.error (e1,e2)):=bI.out
  clear hd1
  go_wp2
  exact ⟨rfl,ax.out,by rw [ae.out];exact ⟨rfl,HD1.out⟩⟩
 | ok qx =>
  obtain ⟨q1,u1⟩:=qx
  obtain ⟨⟨v,rfl,rfl⟩,hd1⟩:=hf1
  have hq1:q1≤E.l.length:=HA1.out q1 u1 rfl
  have HD1:=aa hd1
  clear hd1
  obtain ⟨r2,hr2⟩:∃ r2,r2=Rp.name E.l E.en q1:=⟨_,rfl⟩
  have HR2:=aa hr2
  have HE2:Hid (r=Rp.andThen r2 fun q2 s=>Rp.andThen (Rp.typ E.l E.en q2) fun q3 t=>Rp.andThen (Rp.places E.l E.en q3) fun q4 n=>Rp.andThen (Rp.want E.l E.en ⟨#[59]⟩ q4) fun q5 _=>.ok (q5,⟨1,s,t,Rp.T0,n,[],[]⟩)):=by rw [bI.out,hr2];rfl
  have HA2:Hid (∀ q x,r2=.ok (q,x)→q≤E.l.length):=fun q x hx=>(Rp.jX E.l E.en q1 q x hq1 (by rw [← hr2,hx])).2
  clear hr2
  go_wp2_with fail
  refine (qO E G q1 _ r2 _ HD1 hq1 HR2).mono ?_
  rintro e w2 ⟨hg2,hf2⟩
  have HG2:Hid (w.grownBy w2 (some E.R)):=ay ax.out hg2
  have hs2:=hg2.size
  (try simp only [dn] at hs2)
  (try simp only [World.bC] at hs2)
  have HZ2:Hid (w2.heap[w.heap.size]?=some dh):=aA hg2 (by omega) HZ1.out
  clear hg2
  cases r2 with
  | error er =>
   obtain ⟨e1,e2⟩:=er
   obtain ⟨rfl,hd2⟩:=hf2
   have HD2:=aa hd2
   have ae:Hid (r=.error (e1,e2)):=HE2.out
   clear hd2
   go_wp2
   exact ⟨rfl,HG2.out,by rw [ae.out];exact ⟨rfl,HD2.out⟩⟩
  | ok qx =>
   obtain ⟨q2,s⟩:=qx
   obtain ⟨⟨v,rfl,rfl,hs⟩,hd2⟩:=hf2
   have hq2:q2≤E.l.length:=HA2.out q2 s rfl
   have eQ:w.heap.size<w2.heap.size:=lt_of_block HZ2.out
   have wD:Hid (az E (w2.alloc (cK 1 s 0 ⟨#[]⟩ 0 ⟨#[]⟩ 0 (.slice none 0 0) (.slice none 0 0))) q2 op):=hd2.alloc G _
   have wE:Hid (w.grownBy (w2.alloc (cK 1 s 0 ⟨#[]⟩ 0 ⟨#[]⟩ 0 (.slice none 0 0) (.slice none 0 0))) (some E.R)):=dM HG2.out _
   have wF:Hid ((w2.alloc (cK 1 s 0 ⟨#[]⟩ 0 ⟨#[]⟩ 0 (.slice none 0 0) (.slice none 0 0))).heap[w.heap.size]?=some dh):=(Below.heap_alloc _ _ _ eQ).trans HZ2.out
   have wG:Hid ((w2.alloc (cK 1 s 0 ⟨#[]⟩ 0 ⟨#[]⟩ 0 (.slice none 0 0) (.slice none 0 0))).heap[w2.heap.size]?=some (cK 1 s 0 ⟨#[]⟩ 0 ⟨#[]⟩ 0 (.slice none 0 0) (.slice none 0 0))):=heap_alloc_new w2 _
   clear hd2
   obtain ⟨r3,hr3⟩:∃ r3,r3=Rp.typ E.l E.en q2:=⟨_,rfl⟩
   have HR3:=aa hr3
   have gy:Hid (r=Rp.andThen r3 fun q3 t=>Rp.andThen (Rp.places E.l E.en q3) fun q4 n=>Rp.andThen (Rp.want E.l E.en ⟨#[59]⟩ q4) fun q5 _=>.ok (q5,⟨1,s,t,Rp.T0,n,[],[]⟩)):=by rw [HE2.out,hr3];rfl
   have pY:Hid (∀ q x,r3=.ok (q,x)→q≤E.l.length):=fun q x hx=>(Rp.rU E.l E.en q2 q x hq2 (by rw [← hr3,hx])).2
   clear hr3
   go_wp2_with fail
   refine (Ac E G q2 _ r3 _ wD hq2 HR3).mono ?_
   rintro e w3 ⟨hg3,hf3⟩
   have aK:Hid (w.grownBy w3 (some E.R)):=ay wE.out hg3
   have hs3:=hg3.size
   (try simp only [dn] at hs3)
   (try simp only [World.bC] at hs3)
   have HZ3:Hid (w3.heap[w.heap.size]?=some dh):=aA hg3 (by omega) wF.out
   have mg:Hid (w3.heap[w2.heap.size]?=some (cK 1 s 0 ⟨#[]⟩ 0 ⟨#[]⟩ 0 (.slice none 0 0) (.slice none 0 0))):=aA hg3 (by omega) wG.out
   clear hg3
   cases r3 with
   | error er =>
    obtain ⟨e1,e2⟩:=er
    obtain ⟨rfl,hd3⟩:=hf3
    have HD3:=aa hd3
    have ae:Hid (r=.error (e1,e2)):=gy.out
    clear hd3
    go_wp2
    exact ⟨rfl,aK.out,by rw [ae.out];exact ⟨rfl,HD3.out⟩⟩
   | ok qx =>
    obtain ⟨q3,t⟩:=qx
    obtain ⟨⟨v,rfl,rfl,Ag⟩,hd3⟩:=hf3
    have hq3:q3≤E.l.length:=pY.out q3 t rfl
    have wH:Hid (w.grownBy ((w3.setCell ⟨w2.heap.size,2,none⟩ (.int .i64 t.kind)).setCell ⟨w2.heap.size,3,none⟩ (.string t.gen)) (some E.R)):=gD (gD (aK.out) (Nat.le_of_lt eQ) _) (Nat.le_of_lt eQ) _
    have wI:Hid (az E ((w3.setCell ⟨w2.heap.size,2,none⟩ (.int .i64 t.kind)).setCell ⟨w2.heap.size,3,none⟩ (.string t.gen)) q3 op):=az.set h.out (az.set h.out (hd3) G (aK.out) (a:=⟨w2.heap.size,2,none⟩) (Nat.le_of_lt eQ) _) G (gD (aK.out) (Nat.le_of_lt eQ) _) (a:=⟨w2.heap.size,3,none⟩) (Nat.le_of_lt eQ) _
    have yl:Hid (((w3.setCell ⟨w2.heap.size,2,none⟩ (.int .i64 t.kind)).setCell ⟨w2.heap.size,3,none⟩ (.string t.gen)).heap[w.heap.size]?=some dh):=(Below.heap_setCell _ ⟨w2.heap.size,3,none⟩ _ _ (by show w.heap.size≠w2.heap.size;omega)).trans ((Below.heap_setCell _ ⟨w2.heap.size,2,none⟩ _ _ (by show w.heap.size≠w2.heap.size;omega)).trans (HZ3.out))
    have ym:Hid (((w3.setCell ⟨w2.heap.size,2,none⟩ (.int .i64 t.kind)).setCell ⟨w2.heap.size,3,none⟩ (.string t.gen)).heap[w2.heap.size]?=some (cK 1 s t.kind t.gen 0 ⟨#[]⟩ 0 (.slice none 0 0) (.slice none 0 0))):=H8 mg.out t.kind t.gen
    obtain ⟨⟨x0,x1,x2,x3,x4,x5,x6,x7,x8⟩,f0,f1,f2,f3,f4,f5,f6,f7,f8⟩:=kM mg.out
    clear hd3
    obtain ⟨r4,hr4⟩:∃ r4,r4=Rp.places E.l E.en q3:=⟨_,rfl⟩
    have HR4:=aa hr4
    have gX:Hid (r=Rp.andThen r4 fun q4 n=>Rp.andThen (Rp.want E.l E.en ⟨#[59]⟩ q4) fun q5 _=>.ok (q5,⟨1,s,t,Rp.T0,n,[],[]⟩)):=by rw [gy.out,hr4];rfl
    have sj:Hid (∀ q x,r4=.ok (q,x)→q≤E.l.length):=fun q x hx=>(Rp.Mq E.l E.en q3 q x hq3 (by rw [← hr4,hx])).2
    clear hr4
    go_wp2_with fail
    refine (Yi E G q3 _ r4 _ wI hq3 HR4).mono ?_
    rintro e w4 ⟨hg4,jh⟩
    have aX:Hid (w.grownBy w4 (some E.R)):=ay wH.out hg4
    have hs4:=hg4.size
    (try simp only [dn] at hs4)
    (try simp only [World.bC] at hs4)
    have kC:Hid (w4.heap[w.heap.size]?=some dh):=aA hg4 (by omega) yl.out
    have p9:Hid (w4.heap[w2.heap.size]?=some (cK 1 s t.kind t.gen 0 ⟨#[]⟩ 0 (.slice none 0 0) (.slice none 0 0))):=aA hg4 (by omega) ym.out
    clear hg4
    cases r4 with
    | error er =>
     obtain ⟨e1,e2⟩:=er
     obtain ⟨rfl,hd4⟩:=jh
     have HD4:=aa hd4
     have ae:Hid (r=.error (e1,e2)):=gX.out
     clear hd4
     go_wp2
     exact ⟨rfl,aX.out,by rw [ae.out];exact ⟨rfl,HD4.out⟩⟩
    | ok qx =>
     obtain ⟨q4,n⟩:=qx
     obtain ⟨⟨v,rfl,rfl⟩,hd4⟩:=jh
     have hq4:q4≤E.l.length:=sj.out q4 n rfl
     have Ia:Hid (w.grownBy (w4.setCell ⟨w2.heap.size,6,none⟩ (.int .i64 n)) (some E.R)):=gD (aX.out) (Nat.le_of_lt eQ) _
     have Ib:Hid (az E (w4.setCell ⟨w2.heap.size,6,none⟩ (.int .i64 n)) q4 op):=az.set h.out (hd4) G (aX.out) (a:=⟨w2.heap.size,6,none⟩) (Nat.le_of_lt eQ) _
     have Ic:Hid ((w4.setCell ⟨w2.heap.size,6,none⟩ (.int .i64 n)).heap[w.heap.size]?=some dh):=(Below.heap_setCell _ ⟨w2.heap.size,6,none⟩ _ _ (by show w.heap.size≠w2.heap.size;omega)).trans (kC.out)
     have Ie:Hid ((w4.setCell ⟨w2.heap.size,6,none⟩ (.int .i64 n)).heap[w2.heap.size]?=some (cK 1 s t.kind t.gen 0 ⟨#[]⟩ n (.slice none 0 0) (.slice none 0 0))):=YD p9.out n
     obtain ⟨⟨x0,x1,x2,x3,x4,x5,x6,x7,x8⟩,f0,f1,f2,f3,f4,f5,f6,f7,f8⟩:=kM p9.out
     clear hd4
     obtain ⟨r5,fo⟩:∃ r5,r5=Rp.want E.l E.en ⟨#[59]⟩ q4:=⟨_,rfl⟩
     have jN:=aa fo
     have gT:Hid (r=Rp.andThen r5 fun q5 _=>.ok (q5,⟨1,s,t,Rp.T0,n,[],[]⟩)):=by rw [gX.out,fo];rfl
     have nT:Hid (∀ q x,r5=.ok (q,x)→q≤E.l.length):=fun q x hx=>(Rp.eH E.l E.en _ q4 q x hq4 (by rw [← fo,hx])).2
     clear fo
     go_wp2_with fail
     refine (iW E G q4 _ ⟨#[59]⟩ r5 _ Ib hq4 jN).mono ?_
     rintro e w5 ⟨hg5,jF⟩
     have bY:Hid (w.grownBy w5 (some E.R)):=ay Ia.out hg5
     have hs5:=hg5.size
     (try simp only [dn] at hs5)
     (try simp only [World.bC] at hs5)
     have gV:Hid (w5.heap[w.heap.size]?=some dh):=aA hg5 (by omega) Ic.out
     have lU:Hid (w5.heap[w2.heap.size]?=some (cK 1 s t.kind t.gen 0 ⟨#[]⟩ n (.slice none 0 0) (.slice none 0 0))):=aA hg5 (by omega) Ie.out
     clear hg5
     cases r5 with
     | error er =>
      obtain ⟨e1,e2⟩:=er
      obtain ⟨rfl,hd5⟩:=jF
      have HD5:=aa hd5
      have ae:Hid (r=.error (e1,e2)):=gT.out
      clear hd5
      go_wp2
      exact ⟨rfl,bY.out,by rw [ae.out];exact ⟨rfl,HD5.out⟩⟩
     | ok qx =>
      obtain ⟨q5,u5⟩:=qx
      obtain ⟨⟨v,rfl,rfl⟩,hd5⟩:=jF
      have qX:q5≤E.l.length:=nT.out q5 u5 rfl
      have HD5:=aa hd5
      clear hd5
      have ae:Hid (r=.ok (q5,⟨1,s,t,Rp.T0,n,[],[]⟩)):=gT.out
      obtain ⟨⟨z0,z1,z2,z3,z4,z5,z6,z7,z8⟩,y0,y1,y2,y3,y4,y5,y6,y7,y8⟩:=kM gV.out
      obtain ⟨⟨x0,x1,x2,x3,x4,x5,x6,x7,x8⟩,f0,f1,f2,f3,f4,f5,f6,f7,f8⟩:=kM lU.out
      have hne:w.heap.size≠w2.heap.size:=by omega
      go_wp2
      refine bodyPost_ret (v:=sJ ⟨1,s,t,Rp.T0,n,[],[]⟩ none 0 none 0) (by simp [results,Tryz.results66,go_sem,z0,z1,z2,z3,z4,z5,z6,z7,z8]) rfl ?_
      exact wC G h.out bY.out HD5.out ae.out ⟨hs,Ag,(by show (ByteArray.mk #[]).size≤6000;decide),(lW.nil _ _ _),Nat.zero_le _,0,dO.nil _ _ _ _⟩
theorem YG (E:Env)(G:Good E)(op:Int)(hB:Hid (Dt E op)):uC E op 67 (Rp.function E.l E.en):=by
 intro p r w h hp hr
 have hR:=h.out.lt
 have aR:Hid (r=Rp.function E.l E.en p):=hr
 go_enter Tryz.func67,Tryz.ntmps67
 have aY:Hid (w.grownBy (w.alloc dh) (some E.R)):=dM (eD (Below.refl _ w)) _
 have HD0:Hid (az E (w.alloc dh) p op):=h.out.alloc G _
 have HZ0:Hid ((w.alloc dh).heap[w.heap.size]?=some dh):=heap_alloc_new w dh
 obtain ⟨r1,hr1⟩:∃ r1,r1=Rp.want E.l E.en ⟨#[102,110]⟩ p:=⟨_,rfl⟩
 have HR1:=aa hr1
 have bI:Hid (r=Rp.andThen r1 fun q1 _=>Rp.andThen (Rp.name E.l E.en q1) fun q2 s=>Rp.andThen (Rp.params E.l E.en q2) fun q3 ps=>Rp.andThen (Rp.typ E.l E.en q3) fun q4 t=>Rp.andThen (Rp.body E.l E.en 200 q4) fun q5 b=>.ok (q5,⟨2,s,t,Rp.T0,0,ps,b⟩)):=by rw [aR.out,hr1];rfl
 have HA1:Hid (∀ q x,r1=.ok (q,x)→q≤E.l.length):=fun q x hx=>(Rp.eH E.l E.en _ p q x hp (by rw [← hr1,hx])).2
 clear hr1
 go_wp2_with fail
 refine (iW E G p _ ⟨#[102,110]⟩ r1 _ HD0 hp HR1).mono ?_
 rintro e w1 ⟨hg1,hf1⟩
 have ax:Hid (w.grownBy w1 (some E.R)):=ay aY.out hg1
 have hs1:=hg1.size
 (try simp only [dn] at hs1)
 (try simp only [World.bC] at hs1)
 have HZ1:Hid (w1.heap[w.heap.size]?=some dh):=aA hg1 (by omega) HZ0.out
 clear hg1
 cases r1 with
 | error er =>
  obtain ⟨e1,e2⟩:=er
  obtain ⟨rfl,hd1⟩:=hf1
  have HD1:=aa hd1
  have ae:Hid (r=.error (e1,e2)):=bI.out
  clear hd1
  go_wp2
  exact ⟨rfl,ax.out,by rw [ae.out];exact ⟨rfl,HD1.out⟩⟩
 | ok qx =>
  obtain ⟨q1,u1⟩:=qx
  obtain ⟨⟨v,rfl,rfl⟩,hd1⟩:=hf1
  have hq1:q1≤E.l.length:=HA1.out q1 u1 rfl
  have HD1:=aa hd1
  clear hd1
  obtain ⟨r2,hr2⟩:∃ r2,r2=Rp.name E.l E.en q1:=⟨_,rfl⟩
  have HR2:=aa hr2
  have HE2:Hid (r=Rp.andThen r2 fun q2 s=>Rp.andThen (Rp.params E.l E.en q2) fun q3 ps=>Rp.andThen (Rp.typ E.l E.en q3) fun q4 t=>Rp.andThen (Rp.body E.l E.en 200 q4) fun q5 b=>.ok (q5,⟨2,s,t,Rp.T0,0,ps,b⟩)):=by rw [bI.out,hr2];rfl
  have HA2:Hid (∀ q x,r2=.ok (q,x)→q≤E.l.length):=fun q x hx=>(Rp.jX E.l E.en q1 q x hq1 (by rw [← hr2,hx])).2
  clear hr2
  go_wp2_with fail
  refine (qO E G q1 _ r2 _ HD1 hq1 HR2).mono ?_
  rintro e w2 ⟨hg2,hf2⟩
  have HG2:Hid (w.grownBy w2 (some E.R)):=ay ax.out hg2
  have hs2:=hg2.size
  (try simp only [dn] at hs2)
  (try simp only [World.bC] at hs2)
  have HZ2:Hid (w2.heap[w.heap.size]?=some dh):=aA hg2 (by omega) HZ1.out
  clear hg2
  cases r2 with
  | error er =>
   obtain ⟨e1,e2⟩:=er
   obtain ⟨rfl,hd2⟩:=hf2
   have HD2:=aa hd2
   have ae:Hid (r=.error (e1,e2)):=HE2.out
   clear hd2
   go_wp2
   exact ⟨rfl,HG2.out,by rw [ae.out];exact ⟨rfl,HD2.out⟩⟩
  | ok qx =>
   obtain ⟨q2,s⟩:=qx
   obtain ⟨⟨v,rfl,rfl,hs⟩,hd2⟩:=hf2
   have hq2:q2≤E.l.length:=HA2.out q2 s rfl
   have eQ:w.heap.size<w2.heap.size:=lt_of_block HZ2.out
   have wD:Hid (az E (w2.alloc (cK 2 s 0 ⟨#[]⟩ 0 ⟨#[]⟩ 0 (.slice none 0 0) (.slice none 0 0))) q2 op):=hd2.alloc G _
   have wE:Hid (w.grownBy (w2.alloc (cK 2 s 0 ⟨#[]⟩ 0 ⟨#[]⟩ 0 (.slice none 0 0) (.slice none 0 0))) (some E.R)):=dM HG2.out _
   have wF:Hid ((w2.alloc (cK 2 s 0 ⟨#[]⟩ 0 ⟨#[]⟩ 0 (.slice none 0 0) (.slice none 0 0))).heap[w.heap.size]?=some dh):=(Below.heap_alloc _ _ _ eQ).trans HZ2.out
   have wG:Hid ((w2.alloc (cK 2 s 0 ⟨#[]⟩ 0 ⟨#[]⟩ 0 (.slice none 0 0) (.slice none 0 0))).heap[w2.heap.size]?=some (cK 2 s 0 ⟨#[]⟩ 0 ⟨#[]⟩ 0 (.slice none 0 0) (.slice none 0 0))):=heap_alloc_new w2 _
   clear hd2
   obtain ⟨r3,hr3⟩:∃ r3,r3=Rp.params E.l E.en q2:=⟨_,rfl⟩
   have HR3:=aa hr3
   have gy:Hid (r=Rp.andThen r3 fun q3 ps=>Rp.andThen (Rp.typ E.l E.en q3) fun q4 t=>Rp.andThen (Rp.body E.l E.en 200 q4) fun q5 b=>.ok (q5,⟨2,s,t,Rp.T0,0,ps,b⟩)):=by rw [HE2.out,hr3];rfl
   have pY:Hid (∀ q x,r3=.ok (q,x)→q≤E.l.length):=fun q x hx=>(Rp.CL E.l E.en q2 q x hq2 (by rw [← hr3,hx])).2
   clear hr3
   go_wp2_with fail
   refine (OD E G q2 _ r3 _ wD hq2 HR3).mono ?_
   rintro e w3 ⟨hg3,hf3⟩
   have aK:Hid (w.grownBy w3 (some E.R)):=ay wE.out hg3
   have hs3:=hg3.size
   (try simp only [dn] at hs3)
   (try simp only [World.bC] at hs3)
   have HZ3:Hid (w3.heap[w.heap.size]?=some dh):=aA hg3 (by omega) wF.out
   have mg:Hid (w3.heap[w2.heap.size]?=some (cK 2 s 0 ⟨#[]⟩ 0 ⟨#[]⟩ 0 (.slice none 0 0) (.slice none 0 0))):=aA hg3 (by omega) wG.out
   clear hg3
   cases r3 with
   | error er =>
    obtain ⟨e1,e2⟩:=er
    obtain ⟨rfl,hd3⟩:=hf3
    have HD3:=aa hd3
    have ae:Hid (r=.error (e1,e2)):=gy.out
    clear hd3
    go_wp2
    exact ⟨rfl,aK.out,by rw [ae.out];exact ⟨rfl,HD3.out⟩⟩
   | ok qx =>
    obtain ⟨q3,ps⟩:=qx
    obtain ⟨⟨v,rfl,pa,pc,rfl,hpq⟩,hd3⟩:=hf3
    have hq3:q3≤E.l.length:=pY.out q3 ps rfl
    have Ig:Hid (lW (fun j=>(w2.heap.size+1)≤j∧j<w3.heap.size) w3 ps pa):=hpq.keep (fun j hj=>⟨⟨by have h1:=hj.1;simp only [dn] at h1;exact h1,hj.2⟩,rfl⟩)
    have Ih:Hid (Kept (w2.heap.size+1) w3.heap.size w3 w3):=Kept.refl _ _ _
    clear hpq
    have wH:Hid (w.grownBy (w3.setCell ⟨w2.heap.size,7,none⟩ (.slice pa ps.length pc)) (some E.R)):=gD (aK.out) (Nat.le_of_lt eQ) _
    have wI:Hid (az E (w3.setCell ⟨w2.heap.size,7,none⟩ (.slice pa ps.length pc)) q3 op):=az.set h.out (hd3) G (aK.out) (a:=⟨w2.heap.size,7,none⟩) (Nat.le_of_lt eQ) _
    have yl:Hid ((w3.setCell ⟨w2.heap.size,7,none⟩ (.slice pa ps.length pc)).heap[w.heap.size]?=some dh):=(Below.heap_setCell _ ⟨w2.heap.size,7,none⟩ _ _ (by show w.heap.size≠w2.heap.size;omega)).trans (HZ3.out)
    have ym:Hid ((w3.setCell ⟨w2.heap.size,7,none⟩ (.slice pa ps.length pc)).heap[w2.heap.size]?=some (cK 2 s 0 ⟨#[]⟩ 0 ⟨#[]⟩ 0 (.slice pa ps.length pc) (.slice none 0 0))):=OJ mg.out _
    have Ii:Hid (Kept (w2.heap.size+1) w3.heap.size w3 (w3.setCell ⟨w2.heap.size,7,none⟩ (.slice pa ps.length pc))):=(Ih.out).set (p:=⟨w2.heap.size,7,none⟩) (.inl (by show w2.heap.size<_;omega)) _
    obtain ⟨⟨x0,x1,x2,x3,x4,x5,x6,x7,x8⟩,f0,f1,f2,f3,f4,f5,f6,f7,f8⟩:=kM mg.out
    clear hd3
    obtain ⟨r4,hr4⟩:∃ r4,r4=Rp.typ E.l E.en q3:=⟨_,rfl⟩
    have HR4:=aa hr4
    have gX:Hid (r=Rp.andThen r4 fun q4 t=>Rp.andThen (Rp.body E.l E.en 200 q4) fun q5 b=>.ok (q5,⟨2,s,t,Rp.T0,0,ps,b⟩)):=by rw [gy.out,hr4];rfl
    have sj:Hid (∀ q x,r4=.ok (q,x)→q≤E.l.length):=fun q x hx=>(Rp.rU E.l E.en q3 q x hq3 (by rw [← hr4,hx])).2
    clear hr4
    go_wp2_with fail
    refine (Ac E G q3 _ r4 _ wI hq3 HR4).mono ?_
    rintro e w4 ⟨hg4,jh⟩
    have aX:Hid (w.grownBy w4 (some E.R)):=ay wH.out hg4
    have hs4:=hg4.size
    (try simp only [dn] at hs4)
    (try simp only [World.bC] at hs4)
    have kC:Hid (w4.heap[w.heap.size]?=some dh):=aA hg4 (by omega) yl.out
    have p9:Hid (w4.heap[w2.heap.size]?=some (cK 2 s 0 ⟨#[]⟩ 0 ⟨#[]⟩ 0 (.slice pa ps.length pc) (.slice none 0 0))):=aA hg4 (by omega) ym.out
    have HKP_4:Hid (Kept (w2.heap.size+1) w3.heap.size w3 w4):=Ii.out.grown hg4 (by omega) (by (try simp only [dn]);(try simp only [World.bC]);omega)
    clear hg4
    cases r4 with
    | error er =>
     obtain ⟨e1,e2⟩:=er
     obtain ⟨rfl,hd4⟩:=jh
     have HD4:=aa hd4
     have ae:Hid (r=.error (e1,e2)):=gX.out
     clear hd4
     go_wp2
     exact ⟨rfl,aX.out,by rw [ae.out];exact ⟨rfl,HD4.out⟩⟩
    | ok qx =>
     obtain ⟨q4,t⟩:=qx
     obtain ⟨⟨v,rfl,rfl,Ag⟩,hd4⟩:=jh
     have hq4:q4≤E.l.length:=sj.out q4 t rfl
     have Ia:Hid (w.grownBy ((w4.setCell ⟨w2.heap.size,2,none⟩ (.int .i64 t.kind)).setCell ⟨w2.heap.size,3,none⟩ (.string t.gen)) (some E.R)):=gD (gD (aX.out) (Nat.le_of_lt eQ) _) (Nat.le_of_lt eQ) _
     have Ib:Hid (az E ((w4.setCell ⟨w2.heap.size,2,none⟩ (.int .i64 t.kind)).setCell ⟨w2.heap.size,3,none⟩ (.string t.gen)) q4 op):=az.set h.out (az.set h.out (hd4) G (aX.out) (a:=⟨w2.heap.size,2,none⟩) (Nat.le_of_lt eQ) _) G (gD (aX.out) (Nat.le_of_lt eQ) _) (a:=⟨w2.heap.size,3,none⟩) (Nat.le_of_lt eQ) _
     have Ic:Hid (((w4.setCell ⟨w2.heap.size,2,none⟩ (.int .i64 t.kind)).setCell ⟨w2.heap.size,3,none⟩ (.string t.gen)).heap[w.heap.size]?=some dh):=(Below.heap_setCell _ ⟨w2.heap.size,3,none⟩ _ _ (by show w.heap.size≠w2.heap.size;omega)).trans ((Below.heap_setCell _ ⟨w2.heap.size,2,none⟩ _ _ (by show w.heap.size≠w2.heap.size;omega)).trans (kC.out))
     have Ie:Hid (((w4.setCell ⟨w2.heap.size,2,none⟩ (.int .i64 t.kind)).setCell ⟨w2.heap.size,3,none⟩ (.string t.gen)).heap[w2.heap.size]?=some (cK 2 s t.kind t.gen 0 ⟨#[]⟩ 0 (.slice pa ps.length pc) (.slice none 0 0))):=H8 p9.out t.kind t.gen
     have YH:Hid (Kept (w2.heap.size+1) w3.heap.size w3 ((w4.setCell ⟨w2.heap.size,2,none⟩ (.int .i64 t.kind)).setCell ⟨w2.heap.size,3,none⟩ (.string t.gen))):=((HKP_4.out).set (p:=⟨w2.heap.size,2,none⟩) (.inl (by show w2.heap.size<_;omega)) _).set (p:=⟨w2.heap.size,3,none⟩) (.inl (by show w2.heap.size<_;omega)) _
     obtain ⟨⟨x0,x1,x2,x3,x4,x5,x6,x7,x8⟩,f0,f1,f2,f3,f4,f5,f6,f7,f8⟩:=kM p9.out
     clear hd4
     obtain ⟨r5,fo⟩:∃ r5,r5=Rp.body E.l E.en 200 q4:=⟨_,rfl⟩
     have jN:=aa fo
     have gT:Hid (r=Rp.andThen r5 fun q5 b=>.ok (q5,⟨2,s,t,Rp.T0,0,ps,b⟩)):=by rw [gX.out,fo];rfl
     have nT:Hid (∀ q x,r5=.ok (q,x)→q≤E.l.length):=fun q x hx=>(Rp.qL E.l E.en 200 q4 q x hq4 (by rw [← fo,hx])).2
     clear fo
     go_wp2_with fail
     refine (hB.out q4 r5 _ Ib hq4 jN).mono ?_
     rintro e w5 ⟨hg5,jF⟩
     have bY:Hid (w.grownBy w5 (some E.R)):=ay Ia.out hg5
     have hs5:=hg5.size
     (try simp only [dn] at hs5)
     (try simp only [World.bC] at hs5)
     have gV:Hid (w5.heap[w.heap.size]?=some dh):=aA hg5 (by omega) Ic.out
     have lU:Hid (w5.heap[w2.heap.size]?=some (cK 2 s t.kind t.gen 0 ⟨#[]⟩ 0 (.slice pa ps.length pc) (.slice none 0 0))):=aA hg5 (by omega) Ie.out
     have HKP_5:Hid (Kept (w2.heap.size+1) w3.heap.size w3 w5):=YH.out.grown hg5 (by omega) (by (try simp only [dn]);(try simp only [World.bC]);omega)
     clear hg5
     cases r5 with
     | error er =>
      obtain ⟨e1,e2⟩:=er
      obtain ⟨rfl,hd5⟩:=jF
      have HD5:=aa hd5
      have ae:Hid (r=.error (e1,e2)):=gT.out
      clear hd5
      go_wp2
      exact ⟨rfl,bY.out,by rw [ae.out];exact ⟨rfl,HD5.out⟩⟩
     | ok qx =>
      obtain ⟨q5,b⟩:=qx
      obtain ⟨⟨v,rfl,ba,bc,m,rfl,hbl,hrow⟩,hd5⟩:=jF
      have qX:q5≤E.l.length:=nT.out q5 b rfl
      have qY:Hid (dO (fun j=>w4.heap.size≤j∧j<w5.heap.size) w5 (bH (fun j=>w4.heap.size≤j∧j<w5.heap.size) w5 m) b ba) :=
       have h2:∀ j,gK ((w4.setCell ⟨w2.heap.size,2,none⟩ (.int .i64 t.kind)).setCell ⟨w2.heap.size,3,none⟩ (.string t.gen)) w5 j→(w4.heap.size≤j∧j<w5.heap.size)∧w5.heap[j]?=w5.heap[j]?:=fun j hj=>⟨⟨by have h1:=hj.1;(try simp only [dn] at h1);(try simp only [World.bC] at h1);exact h1,hj.2⟩,rfl⟩
       dO.keep h2 (fun _ _ _ _ hx=>bH.keep h2 hx) hrow
      have Ah:Hid (Kept w4.heap.size w5.heap.size w5 w5):=Kept.refl _ _ _
      clear hrow
      have Ij:Hid (w.grownBy (w5.setCell ⟨w2.heap.size,8,none⟩ (.slice ba b.length bc)) (some E.R)):=gD (bY.out) (Nat.le_of_lt eQ) _
      have Ik:Hid (az E (w5.setCell ⟨w2.heap.size,8,none⟩ (.slice ba b.length bc)) q5 op):=az.set h.out (hd5) G (bY.out) (a:=⟨w2.heap.size,8,none⟩) (Nat.le_of_lt eQ) _
      have OM:Hid ((w5.setCell ⟨w2.heap.size,8,none⟩ (.slice ba b.length bc)).heap[w.heap.size]?=some dh):=(Below.heap_setCell _ ⟨w2.heap.size,8,none⟩ _ _ (by show w.heap.size≠w2.heap.size;omega)).trans (gV.out)
      have OO:Hid ((w5.setCell ⟨w2.heap.size,8,none⟩ (.slice ba b.length bc)).heap[w2.heap.size]?=some (cK 2 s t.kind t.gen 0 ⟨#[]⟩ 0 (.slice pa ps.length pc) (.slice ba b.length bc))):=H9 lU.out _
      have Il:Hid (Kept (w2.heap.size+1) w3.heap.size w3 (w5.setCell ⟨w2.heap.size,8,none⟩ (.slice ba b.length bc))):=(HKP_5.out).set (p:=⟨w2.heap.size,8,none⟩) (.inl (by show w2.heap.size<_;omega)) _
      have YI:Hid (Kept w4.heap.size w5.heap.size w5 (w5.setCell ⟨w2.heap.size,8,none⟩ (.slice ba b.length bc))):=(Ah.out).set (p:=⟨w2.heap.size,8,none⟩) (.inl (by show w2.heap.size<_;omega)) _
      obtain ⟨⟨x0,x1,x2,x3,x4,x5,x6,x7,x8⟩,f0,f1,f2,f3,f4,f5,f6,f7,f8⟩:=kM lU.out
      clear hd5
      have ae:Hid (r=.ok (q5,⟨2,s,t,Rp.T0,0,ps,b⟩)):=gT.out
      obtain ⟨⟨z0,z1,z2,z3,z4,z5,z6,z7,z8⟩,y0,y1,y2,y3,y4,y5,y6,y7,y8⟩:=kM gV.out
      have hne:w.heap.size≠w2.heap.size:=by omega
      go_wp2
      refine bodyPost_ret (v:=sJ ⟨2,s,t,Rp.T0,0,ps,b⟩ pa pc ba bc) (by simp [results,Tryz.results67,go_sem,z0,z1,z2,z3,z4,z5,z6,z7,z8]) rfl ?_
      exact wC G h.out Ij.out Ik.out ae.out ⟨hs,Ag,(by show (ByteArray.mk #[]).size≤6000;decide),(Ig.out.later Il.out (by omega) (by (try simp only [World.bC]);omega)),hbl,m,qY.out.later YI.out (by omega) (by (try simp only [World.bC]);omega)⟩
theorem YJ (E:Env)(G:Good E)(op:Int)(hB:Hid (Dt E op)):uC E op 68 (Rp.uq E.l E.en):=by
 intro p r w h hp hr
 have hR:=h.out.lt
 have aR:Hid (r=Rp.uq E.l E.en p):=hr
 go_enter Tryz.func68,Tryz.ntmps68
 have aY:Hid (w.grownBy (w.alloc dh) (some E.R)):=dM (eD (Below.refl _ w)) _
 have HD0:Hid (az E (w.alloc dh) p op):=h.out.alloc G _
 have HZ0:Hid ((w.alloc dh).heap[w.heap.size]?=some dh):=heap_alloc_new w dh
 obtain ⟨r1,hr1⟩:∃ r1,r1=Rp.want E.l E.en ⟨#[103,101,110]⟩ p:=⟨_,rfl⟩
 have HR1:=aa hr1
 have bI:Hid (r=Rp.andThen r1 fun q1 _=>Rp.andThen (Rp.name E.l E.en q1) fun q2 s=>Rp.andThen (Rp.params E.l E.en q2) fun q3 ps=>Rp.andThen (Rp.want E.l E.en ⟨#[116,97,107,101,115]⟩ q3) fun q4 _=>Rp.andThen (Rp.typ E.l E.en q4) fun q5 t=>Rp.andThen (Rp.want E.l E.en ⟨#[121,105,101,108,100,115]⟩ q5) fun q6 _=>Rp.andThen (Rp.typ E.l E.en q6) fun q7 u=>Rp.andThen (Rp.body E.l E.en 200 q7) fun q8 b=>.ok (q8,⟨3,s,u,t,0,ps,b⟩)):=by rw [aR.out,hr1];rfl
 have HA1:Hid (∀ q x,r1=.ok (q,x)→q≤E.l.length):=fun q x hx=>(Rp.eH E.l E.en _ p q x hp (by rw [← hr1,hx])).2
 clear hr1
 go_wp2_with fail
 refine (iW E G p _ ⟨#[103,101,110]⟩ r1 _ HD0 hp HR1).mono ?_
 rintro e w1 ⟨hg1,hf1⟩
 have ax:Hid (w.grownBy w1 (some E.R)):=ay aY.out hg1
 have hs1:=hg1.size
 (try simp only [dn] at hs1)
 (try simp only [World.bC] at hs1)
 have HZ1:Hid (w1.heap[w.heap.size]?=some dh):=aA hg1 (by omega) HZ0.out
 clear hg1
 cases r1 with
 | error er =>
  obtain ⟨e1,e2⟩:=er
  obtain ⟨rfl,hd1⟩:=hf1
  have HD1:=aa hd1
  have ae:Hid (r=.error (e1,e2)):=bI.out
  clear hd1
  go_wp2
  exact ⟨rfl,ax.out,by rw [ae.out];exact ⟨rfl,HD1.out⟩⟩
 | ok qx =>
  obtain ⟨q1,u1⟩:=qx
  obtain ⟨⟨v,rfl,rfl⟩,hd1⟩:=hf1
  have hq1:q1≤E.l.length:=HA1.out q1 u1 rfl
  have HD1:=aa hd1
  clear hd1
  obtain ⟨r2,hr2⟩:∃ r2,r2=Rp.name E.l E.en q1:=⟨_,rfl⟩
  have HR2:=aa hr2
  have HE2:Hid (r=Rp.andThen r2 fun q2 s=>Rp.andThen (Rp.params E.l E.en q2) fun q3 ps=>Rp.andThen (Rp.want E.l E.en ⟨#[116,97,107,101,115]⟩ q3) fun q4 _=>Rp.andThen (Rp.typ E.l E.en q4) fun q5 t=>Rp.andThen (Rp.want E.l E.en ⟨#[121,105,101,108,100,115]⟩ q5) fun q6 _=>Rp.andThen (Rp.typ E.l E.en q6) fun q7 u=>Rp.andThen (Rp.body E.l E.en 200 q7) fun q8 b=>.ok (q8,⟨3,s,u,t,0,ps,b⟩)):=by rw [bI.out,hr2];rfl
  have HA2:Hid (∀ q x,r2=.ok (q,x)→q≤E.l.length):=fun q x hx=>(Rp.jX E.l E.en q1 q x hq1 (by rw [← hr2,hx])).2
  clear hr2
  go_wp2_with fail
  refine (qO E G q1 _ r2 _ HD1 hq1 HR2).mono ?_
  rintro e w2 ⟨hg2,hf2⟩
  have HG2:Hid (w.grownBy w2 (some E.R)):=ay ax.out hg2
  have hs2:=hg2.size
  (try simp only [dn] at hs2)
  (try simp only [World.bC] at hs2)
  have HZ2:Hid (w2.heap[w.heap.size]?=some dh):=aA hg2 (by omega) HZ1.out
  clear hg2
  cases r2 with
  | error er =>
   obtain ⟨e1,e2⟩:=er
   obtain ⟨rfl,hd2⟩:=hf2
   have HD2:=aa hd2
   have ae:Hid (r=.error (e1,e2)):=HE2.out
   clear hd2
   go_wp2
   exact ⟨rfl,HG2.out,by rw [ae.out];exact ⟨rfl,HD2.out⟩⟩
  | ok qx =>
   obtain ⟨q2,s⟩:=qx
   obtain ⟨⟨v,rfl,rfl,hs⟩,hd2⟩:=hf2
   have hq2:q2≤E.l.length:=HA2.out q2 s rfl
   have eQ:w.heap.size<w2.heap.size:=lt_of_block HZ2.out
   have wD:Hid (az E (w2.alloc (cK 3 s 0 ⟨#[]⟩ 0 ⟨#[]⟩ 0 (.slice none 0 0) (.slice none 0 0))) q2 op):=hd2.alloc G _
   have wE:Hid (w.grownBy (w2.alloc (cK 3 s 0 ⟨#[]⟩ 0 ⟨#[]⟩ 0 (.slice none 0 0) (.slice none 0 0))) (some E.R)):=dM HG2.out _
   have wF:Hid ((w2.alloc (cK 3 s 0 ⟨#[]⟩ 0 ⟨#[]⟩ 0 (.slice none 0 0) (.slice none 0 0))).heap[w.heap.size]?=some dh):=(Below.heap_alloc _ _ _ eQ).trans HZ2.out
   have wG:Hid ((w2.alloc (cK 3 s 0 ⟨#[]⟩ 0 ⟨#[]⟩ 0 (.slice none 0 0) (.slice none 0 0))).heap[w2.heap.size]?=some (cK 3 s 0 ⟨#[]⟩ 0 ⟨#[]⟩ 0 (.slice none 0 0) (.slice none 0 0))):=heap_alloc_new w2 _
   clear hd2
   obtain ⟨r3,hr3⟩:∃ r3,r3=Rp.params E.l E.en q2:=⟨_,rfl⟩
   have HR3:=aa hr3
   have gy:Hid (r=Rp.andThen r3 fun q3 ps=>Rp.andThen (Rp.want E.l E.en ⟨#[116,97,107,101,115]⟩ q3) fun q4 _=>Rp.andThen (Rp.typ E.l E.en q4) fun q5 t=>Rp.andThen (Rp.want E.l E.en ⟨#[121,105,101,108,100,115]⟩ q5) fun q6 _=>Rp.andThen (Rp.typ E.l E.en q6) fun q7 u=>Rp.andThen (Rp.body E.l E.en 200 q7) fun q8 b=>.ok (q8,⟨3,s,u,t,0,ps,b⟩)):=by rw [HE2.out,hr3];rfl
   have pY:Hid (∀ q x,r3=.ok (q,x)→q≤E.l.length):=fun q x hx=>(Rp.CL E.l E.en q2 q x hq2 (by rw [← hr3,hx])).2
   clear hr3
   go_wp2_with fail
   refine (OD E G q2 _ r3 _ wD hq2 HR3).mono ?_
   rintro e w3 ⟨hg3,hf3⟩
   have aK:Hid (w.grownBy w3 (some E.R)):=ay wE.out hg3
   have hs3:=hg3.size
   (try simp only [dn] at hs3)
   (try simp only [World.bC] at hs3)
   have HZ3:Hid (w3.heap[w.heap.size]?=some dh):=aA hg3 (by omega) wF.out
   have mg:Hid (w3.heap[w2.heap.size]?=some (cK 3 s 0 ⟨#[]⟩ 0 ⟨#[]⟩ 0 (.slice none 0 0) (.slice none 0 0))):=aA hg3 (by omega) wG.out
   clear hg3
   cases r3 with
   | error er =>
    obtain ⟨e1,e2⟩:=er
    obtain ⟨rfl,hd3⟩:=hf3
    have HD3:=aa hd3
    have ae:Hid (r=.error (e1,e2)):=gy.out
    clear hd3
    go_wp2
    exact ⟨rfl,aK.out,by rw [ae.out];exact ⟨rfl,HD3.out⟩⟩
   | ok qx =>
    obtain ⟨q3,ps⟩:=qx
    obtain ⟨⟨v,rfl,pa,pc,rfl,hpq⟩,hd3⟩:=hf3
    have hq3:q3≤E.l.length:=pY.out q3 ps rfl
    have Ig:Hid (lW (fun j=>(w2.heap.size+1)≤j∧j<w3.heap.size) w3 ps pa):=hpq.keep (fun j hj=>⟨⟨by have h1:=hj.1;simp only [dn] at h1;exact h1,hj.2⟩,rfl⟩)
    have Ih:Hid (Kept (w2.heap.size+1) w3.heap.size w3 w3):=Kept.refl _ _ _
    clear hpq
    have wH:Hid (w.grownBy (w3.setCell ⟨w2.heap.size,7,none⟩ (.slice pa ps.length pc)) (some E.R)):=gD (aK.out) (Nat.le_of_lt eQ) _
    have wI:Hid (az E (w3.setCell ⟨w2.heap.size,7,none⟩ (.slice pa ps.length pc)) q3 op):=az.set h.out (hd3) G (aK.out) (a:=⟨w2.heap.size,7,none⟩) (Nat.le_of_lt eQ) _
    have yl:Hid ((w3.setCell ⟨w2.heap.size,7,none⟩ (.slice pa ps.length pc)).heap[w.heap.size]?=some dh):=(Below.heap_setCell _ ⟨w2.heap.size,7,none⟩ _ _ (by show w.heap.size≠w2.heap.size;omega)).trans (HZ3.out)
    have ym:Hid ((w3.setCell ⟨w2.heap.size,7,none⟩ (.slice pa ps.length pc)).heap[w2.heap.size]?=some (cK 3 s 0 ⟨#[]⟩ 0 ⟨#[]⟩ 0 (.slice pa ps.length pc) (.slice none 0 0))):=OJ mg.out _
    have Ii:Hid (Kept (w2.heap.size+1) w3.heap.size w3 (w3.setCell ⟨w2.heap.size,7,none⟩ (.slice pa ps.length pc))):=(Ih.out).set (p:=⟨w2.heap.size,7,none⟩) (.inl (by show w2.heap.size<_;omega)) _
    obtain ⟨⟨x0,x1,x2,x3,x4,x5,x6,x7,x8⟩,f0,f1,f2,f3,f4,f5,f6,f7,f8⟩:=kM mg.out
    clear hd3
    obtain ⟨r4,hr4⟩:∃ r4,r4=Rp.want E.l E.en ⟨#[116,97,107,101,115]⟩ q3:=⟨_,rfl⟩
    have HR4:=aa hr4
    have gX:Hid (r=Rp.andThen r4 fun q4 _=>Rp.andThen (Rp.typ E.l E.en q4) fun q5 t=>Rp.andThen (Rp.want E.l E.en ⟨#[121,105,101,108,100,115]⟩ q5) fun q6 _=>Rp.andThen (Rp.typ E.l E.en q6) fun q7 u=>Rp.andThen (Rp.body E.l E.en 200 q7) fun q8 b=>.ok (q8,⟨3,s,u,t,0,ps,b⟩)):=by rw [gy.out,hr4];rfl
    have sj:Hid (∀ q x,r4=.ok (q,x)→q≤E.l.length):=fun q x hx=>(Rp.eH E.l E.en _ q3 q x hq3 (by rw [← hr4,hx])).2
    clear hr4
    go_wp2_with fail
    refine (iW E G q3 _ ⟨#[116,97,107,101,115]⟩ r4 _ wI hq3 HR4).mono ?_
    rintro e w4 ⟨hg4,jh⟩
    have aX:Hid (w.grownBy w4 (some E.R)):=ay wH.out hg4
    have hs4:=hg4.size
    (try simp only [dn] at hs4)
    (try simp only [World.bC] at hs4)
    have kC:Hid (w4.heap[w.heap.size]?=some dh):=aA hg4 (by omega) yl.out
    have p9:Hid (w4.heap[w2.heap.size]?=some (cK 3 s 0 ⟨#[]⟩ 0 ⟨#[]⟩ 0 (.slice pa ps.length pc) (.slice none 0 0))):=aA hg4 (by omega) ym.out
    have HKP_4:Hid (Kept (w2.heap.size+1) w3.heap.size w3 w4):=Ii.out.grown hg4 (by omega) (by (try simp only [dn]);(try simp only [World.bC]);omega)
    clear hg4
    cases r4 with
    | error er =>
     obtain ⟨e1,e2⟩:=er
     obtain ⟨rfl,hd4⟩:=jh
     have HD4:=aa hd4
     have ae:Hid (r=.error (e1,e2)):=gX.out
     clear hd4
     go_wp2
     exact ⟨rfl,aX.out,by rw [ae.out];exact ⟨rfl,HD4.out⟩⟩
    | ok qx =>
     obtain ⟨q4,u4⟩:=qx
     obtain ⟨⟨v,rfl,rfl⟩,hd4⟩:=jh
     have hq4:q4≤E.l.length:=sj.out q4 u4 rfl
     have HD4:=aa hd4
     clear hd4
     obtain ⟨r5,fo⟩:∃ r5,r5=Rp.typ E.l E.en q4:=⟨_,rfl⟩
     have jN:=aa fo
     have gT:Hid (r=Rp.andThen r5 fun q5 t=>Rp.andThen (Rp.want E.l E.en ⟨#[121,105,101,108,100,115]⟩ q5) fun q6 _=>Rp.andThen (Rp.typ E.l E.en q6) fun q7 u=>Rp.andThen (Rp.body E.l E.en 200 q7) fun q8 b=>.ok (q8,⟨3,s,u,t,0,ps,b⟩)):=by rw [gX.out,fo];rfl
     have nT:Hid (∀ q x,r5=.ok (q,x)→q≤E.l.length):=fun q x hx=>(Rp.rU E.l E.en q4 q x hq4 (by rw [← fo,hx])).2
     clear fo
     go_wp2_with fail
     refine (Ac E G q4 _ r5 _ HD4 hq4 jN).mono ?_
     rintro e w5 ⟨hg5,jF⟩
     have bY:Hid (w.grownBy w5 (some E.R)):=ay aX.out hg5
     have hs5:=hg5.size
     (try simp only [dn] at hs5)
     (try simp only [World.bC] at hs5)
     have gV:Hid (w5.heap[w.heap.size]?=some dh):=aA hg5 (by omega) kC.out
     have lU:Hid (w5.heap[w2.heap.size]?=some (cK 3 s 0 ⟨#[]⟩ 0 ⟨#[]⟩ 0 (.slice pa ps.length pc) (.slice none 0 0))):=aA hg5 (by omega) p9.out
     have HKP_5:Hid (Kept (w2.heap.size+1) w3.heap.size w3 w5):=HKP_4.out.grown hg5 (by omega) (by (try simp only [dn]);(try simp only [World.bC]);omega)
     clear hg5
     cases r5 with
     | error er =>
      obtain ⟨e1,e2⟩:=er
      obtain ⟨rfl,hd5⟩:=jF
      have HD5:=aa hd5
      have ae:Hid (r=.error (e1,e2)):=gT.out
      clear hd5
      go_wp2
      exact ⟨rfl,bY.out,by rw [ae.out];exact ⟨rfl,HD5.out⟩⟩
     | ok qx =>
      obtain ⟨q5,t⟩:=qx
      obtain ⟨⟨v,rfl,rfl,Ag⟩,hd5⟩:=jF
      have qX:q5≤E.l.length:=nT.out q5 t rfl
      have Ij:Hid (w.grownBy ((w5.setCell ⟨w2.heap.size,4,none⟩ (.int .i64 t.kind)).setCell ⟨w2.heap.size,5,none⟩ (.string t.gen)) (some E.R)):=gD (gD (bY.out) (Nat.le_of_lt eQ) _) (Nat.le_of_lt eQ) _
      have Ik:Hid (az E ((w5.setCell ⟨w2.heap.size,4,none⟩ (.int .i64 t.kind)).setCell ⟨w2.heap.size,5,none⟩ (.string t.gen)) q5 op):=az.set h.out (az.set h.out (hd5) G (bY.out) (a:=⟨w2.heap.size,4,none⟩) (Nat.le_of_lt eQ) _) G (gD (bY.out) (Nat.le_of_lt eQ) _) (a:=⟨w2.heap.size,5,none⟩) (Nat.le_of_lt eQ) _
      have OM:Hid (((w5.setCell ⟨w2.heap.size,4,none⟩ (.int .i64 t.kind)).setCell ⟨w2.heap.size,5,none⟩ (.string t.gen)).heap[w.heap.size]?=some dh):=(Below.heap_setCell _ ⟨w2.heap.size,5,none⟩ _ _ (by show w.heap.size≠w2.heap.size;omega)).trans ((Below.heap_setCell _ ⟨w2.heap.size,4,none⟩ _ _ (by show w.heap.size≠w2.heap.size;omega)).trans (gV.out))
      have OO:Hid (((w5.setCell ⟨w2.heap.size,4,none⟩ (.int .i64 t.kind)).setCell ⟨w2.heap.size,5,none⟩ (.string t.gen)).heap[w2.heap.size]?=some (cK 3 s 0 ⟨#[]⟩ t.kind t.gen 0 (.slice pa ps.length pc) (.slice none 0 0))):=YC lU.out t.kind t.gen
      have Il:Hid (Kept (w2.heap.size+1) w3.heap.size w3 ((w5.setCell ⟨w2.heap.size,4,none⟩ (.int .i64 t.kind)).setCell ⟨w2.heap.size,5,none⟩ (.string t.gen))):=((HKP_5.out).set (p:=⟨w2.heap.size,4,none⟩) (.inl (by show w2.heap.size<_;omega)) _).set (p:=⟨w2.heap.size,5,none⟩) (.inl (by show w2.heap.size<_;omega)) _
      obtain ⟨⟨x0,x1,x2,x3,x4,x5,x6,x7,x8⟩,f0,f1,f2,f3,f4,f5,f6,f7,f8⟩:=kM lU.out
      clear hd5
      obtain ⟨r6,j4⟩:∃ r6,r6=Rp.want E.l E.en ⟨#[121,105,101,108,100,115]⟩ q5:=⟨_,rfl⟩
      have sG:=aa j4
      have lQ:Hid (r=Rp.andThen r6 fun q6 _=>Rp.andThen (Rp.typ E.l E.en q6) fun q7 u=>Rp.andThen (Rp.body E.l E.en 200 q7) fun q8 b=>.ok (q8,⟨3,s,u,t,0,ps,b⟩)):=by rw [gT.out,j4];rfl
      have Ha:Hid (∀ q x,r6=.ok (q,x)→q≤E.l.length):=fun q x hx=>(Rp.eH E.l E.en _ q5 q x qX (by rw [← j4,hx])).2
      clear j4
      go_wp2_with fail
      refine (iW E G q5 _ ⟨#[121,105,101,108,100,115]⟩ r6 _ Ik qX sG).mono ?_
      rintro e w6 ⟨dz,qa⟩
      have iH:Hid (w.grownBy w6 (some E.R)):=ay Ij.out dz
      have hs6:=dz.size
      (try simp only [dn] at hs6)
      (try simp only [World.bC] at hs6)
      have lS:Hid (w6.heap[w.heap.size]?=some dh):=aA dz (by omega) OM.out
      have Hd:Hid (w6.heap[w2.heap.size]?=some (cK 3 s 0 ⟨#[]⟩ t.kind t.gen 0 (.slice pa ps.length pc) (.slice none 0 0))):=aA dz (by omega) OO.out
      have HKP_6:Hid (Kept (w2.heap.size+1) w3.heap.size w3 w6):=Il.out.grown dz (by omega) (by (try simp only [dn]);(try simp only [World.bC]);omega)
      clear dz
      cases r6 with
      | error er =>
       obtain ⟨e1,e2⟩:=er
       obtain ⟨rfl,hd6⟩:=qa
       have HD6:=aa hd6
       have ae:Hid (r=.error (e1,e2)):=lQ.out
       clear hd6
       go_wp2
       exact ⟨rfl,iH.out,by rw [ae.out];exact ⟨rfl,HD6.out⟩⟩
      | ok qx =>
       obtain ⟨q6,u6⟩:=qx
       obtain ⟨⟨v,rfl,rfl⟩,hd6⟩:=qa
       have su:q6≤E.l.length:=Ha.out q6 u6 rfl
       have HD6:=aa hd6
       clear hd6
       obtain ⟨r7,Du⟩:∃ r7,r7=Rp.typ E.l E.en q6:=⟨_,rfl⟩
       have YK:=aa Du
       have OP:Hid (r=Rp.andThen r7 fun q7 u=>Rp.andThen (Rp.body E.l E.en 200 q7) fun q8 b=>.ok (q8,⟨3,s,u,t,0,ps,b⟩)):=by rw [lQ.out,Du];rfl
       have YL:Hid (∀ q x,r7=.ok (q,x)→q≤E.l.length):=fun q x hx=>(Rp.rU E.l E.en q6 q x su (by rw [← Du,hx])).2
       clear Du
       go_wp2_with fail
       refine (Ac E G q6 _ r7 _ HD6 su YK).mono ?_
       rintro e w7 ⟨ig,zS⟩
       have kY:Hid (w.grownBy w7 (some E.R)):=ay iH.out ig
       have hs7:=ig.size
       (try simp only [dn] at hs7)
       (try simp only [World.bC] at hs7)
       have mR:Hid (w7.heap[w.heap.size]?=some dh):=aA ig (by omega) lS.out
       have OQ:Hid (w7.heap[w2.heap.size]?=some (cK 3 s 0 ⟨#[]⟩ t.kind t.gen 0 (.slice pa ps.length pc) (.slice none 0 0))):=aA ig (by omega) Hd.out
       have HKP_7:Hid (Kept (w2.heap.size+1) w3.heap.size w3 w7):=HKP_6.out.grown ig (by omega) (by (try simp only [dn]);(try simp only [World.bC]);omega)
       clear ig
       cases r7 with
       | error er =>
        obtain ⟨e1,e2⟩:=er
        obtain ⟨rfl,hd7⟩:=zS
        have HD7:=aa hd7
        have ae:Hid (r=.error (e1,e2)):=OP.out
        clear hd7
        go_wp2
        exact ⟨rfl,kY.out,by rw [ae.out];exact ⟨rfl,HD7.out⟩⟩
       | ok qx =>
        obtain ⟨q7,u⟩:=qx
        obtain ⟨⟨v,rfl,rfl,hzu⟩,hd7⟩:=zS
        have OT:q7≤E.l.length:=YL.out q7 u rfl
        have YM:Hid (w.grownBy ((w7.setCell ⟨w2.heap.size,2,none⟩ (.int .i64 u.kind)).setCell ⟨w2.heap.size,3,none⟩ (.string u.gen)) (some E.R)):=gD (gD (kY.out) (Nat.le_of_lt eQ) _) (Nat.le_of_lt eQ) _
        have YN:Hid (az E ((w7.setCell ⟨w2.heap.size,2,none⟩ (.int .i64 u.kind)).setCell ⟨w2.heap.size,3,none⟩ (.string u.gen)) q7 op):=az.set h.out (az.set h.out (hd7) G (kY.out) (a:=⟨w2.heap.size,2,none⟩) (Nat.le_of_lt eQ) _) G (gD (kY.out) (Nat.le_of_lt eQ) _) (a:=⟨w2.heap.size,3,none⟩) (Nat.le_of_lt eQ) _
        have YO:Hid (((w7.setCell ⟨w2.heap.size,2,none⟩ (.int .i64 u.kind)).setCell ⟨w2.heap.size,3,none⟩ (.string u.gen)).heap[w.heap.size]?=some dh):=(Below.heap_setCell _ ⟨w2.heap.size,3,none⟩ _ _ (by show w.heap.size≠w2.heap.size;omega)).trans ((Below.heap_setCell _ ⟨w2.heap.size,2,none⟩ _ _ (by show w.heap.size≠w2.heap.size;omega)).trans (mR.out))
        have YP:Hid (((w7.setCell ⟨w2.heap.size,2,none⟩ (.int .i64 u.kind)).setCell ⟨w2.heap.size,3,none⟩ (.string u.gen)).heap[w2.heap.size]?=some (cK 3 s u.kind u.gen t.kind t.gen 0 (.slice pa ps.length pc) (.slice none 0 0))):=H8 OQ.out u.kind u.gen
        have YQ:Hid (Kept (w2.heap.size+1) w3.heap.size w3 ((w7.setCell ⟨w2.heap.size,2,none⟩ (.int .i64 u.kind)).setCell ⟨w2.heap.size,3,none⟩ (.string u.gen))):=((HKP_7.out).set (p:=⟨w2.heap.size,2,none⟩) (.inl (by show w2.heap.size<_;omega)) _).set (p:=⟨w2.heap.size,3,none⟩) (.inl (by show w2.heap.size<_;omega)) _
        obtain ⟨⟨x0,x1,x2,x3,x4,x5,x6,x7,x8⟩,f0,f1,f2,f3,f4,f5,f6,f7,f8⟩:=kM OQ.out
        clear hd7
        obtain ⟨r8,Dv⟩:∃ r8,r8=Rp.body E.l E.en 200 q7:=⟨_,rfl⟩
        have YR:=aa Dv
        have OU:Hid (r=Rp.andThen r8 fun q8 b=>.ok (q8,⟨3,s,u,t,0,ps,b⟩)):=by rw [OP.out,Dv];rfl
        have YS:Hid (∀ q x,r8=.ok (q,x)→q≤E.l.length):=fun q x hx=>(Rp.qL E.l E.en 200 q7 q x OT (by rw [← Dv,hx])).2
        clear Dv
        go_wp2_with fail
        refine (hB.out q7 r8 _ YN OT YR).mono ?_
        rintro e w8 ⟨aL,bL⟩
        have bT:Hid (w.grownBy w8 (some E.R)):=ay YM.out aL
        have GM:=aL.size
        (try simp only [dn] at GM)
        (try simp only [World.bC] at GM)
        have mQ:Hid (w8.heap[w.heap.size]?=some dh):=aA aL (by omega) YO.out
        have OV:Hid (w8.heap[w2.heap.size]?=some (cK 3 s u.kind u.gen t.kind t.gen 0 (.slice pa ps.length pc) (.slice none 0 0))):=aA aL (by omega) YP.out
        have HKP_8:Hid (Kept (w2.heap.size+1) w3.heap.size w3 w8):=YQ.out.grown aL (by omega) (by (try simp only [dn]);(try simp only [World.bC]);omega)
        clear aL
        cases r8 with
        | error er =>
         obtain ⟨e1,e2⟩:=er
         obtain ⟨rfl,aD⟩:=bL
         have aS:=aa aD
         have ae:Hid (r=.error (e1,e2)):=OU.out
         clear aD
         go_wp2
         exact ⟨rfl,bT.out,by rw [ae.out];exact ⟨rfl,aS.out⟩⟩
        | ok qx =>
         obtain ⟨q8,b⟩:=qx
         obtain ⟨⟨v,rfl,ba,bc,m,rfl,hbl,hrow⟩,aD⟩:=bL
         have hq8:q8≤E.l.length:=YS.out q8 b rfl
         have qY:Hid (dO (fun j=>w7.heap.size≤j∧j<w8.heap.size) w8 (bH (fun j=>w7.heap.size≤j∧j<w8.heap.size) w8 m) b ba) :=
          have h2:∀ j,gK ((w7.setCell ⟨w2.heap.size,2,none⟩ (.int .i64 u.kind)).setCell ⟨w2.heap.size,3,none⟩ (.string u.gen)) w8 j→(w7.heap.size≤j∧j<w8.heap.size)∧w8.heap[j]?=w8.heap[j]?:=fun j hj=>⟨⟨by have h1:=hj.1;(try simp only [dn] at h1);(try simp only [World.bC] at h1);exact h1,hj.2⟩,rfl⟩
          dO.keep h2 (fun _ _ _ _ hx=>bH.keep h2 hx) hrow
         have Ah:Hid (Kept w7.heap.size w8.heap.size w8 w8):=Kept.refl _ _ _
         clear hrow
         have YT:Hid (w.grownBy (w8.setCell ⟨w2.heap.size,8,none⟩ (.slice ba b.length bc)) (some E.R)):=gD (bT.out) (Nat.le_of_lt eQ) _
         have YU:Hid (az E (w8.setCell ⟨w2.heap.size,8,none⟩ (.slice ba b.length bc)) q8 op):=az.set h.out (aD) G (bT.out) (a:=⟨w2.heap.size,8,none⟩) (Nat.le_of_lt eQ) _
         have aeF:Hid ((w8.setCell ⟨w2.heap.size,8,none⟩ (.slice ba b.length bc)).heap[w.heap.size]?=some dh):=(Below.heap_setCell _ ⟨w2.heap.size,8,none⟩ _ _ (by show w.heap.size≠w2.heap.size;omega)).trans (mQ.out)
         have aeG:Hid ((w8.setCell ⟨w2.heap.size,8,none⟩ (.slice ba b.length bc)).heap[w2.heap.size]?=some (cK 3 s u.kind u.gen t.kind t.gen 0 (.slice pa ps.length pc) (.slice ba b.length bc))):=H9 OV.out _
         have YV:Hid (Kept (w2.heap.size+1) w3.heap.size w3 (w8.setCell ⟨w2.heap.size,8,none⟩ (.slice ba b.length bc))):=(HKP_8.out).set (p:=⟨w2.heap.size,8,none⟩) (.inl (by show w2.heap.size<_;omega)) _
         have YW:Hid (Kept w7.heap.size w8.heap.size w8 (w8.setCell ⟨w2.heap.size,8,none⟩ (.slice ba b.length bc))):=(Ah.out).set (p:=⟨w2.heap.size,8,none⟩) (.inl (by show w2.heap.size<_;omega)) _
         obtain ⟨⟨x0,x1,x2,x3,x4,x5,x6,x7,x8⟩,f0,f1,f2,f3,f4,f5,f6,f7,f8⟩:=kM OV.out
         clear aD
         have ae:Hid (r=.ok (q8,⟨3,s,u,t,0,ps,b⟩)):=OU.out
         obtain ⟨⟨z0,z1,z2,z3,z4,z5,z6,z7,z8⟩,y0,y1,y2,y3,y4,y5,y6,y7,y8⟩:=kM mQ.out
         have hne:w.heap.size≠w2.heap.size:=by omega
         go_wp2
         refine bodyPost_ret (v:=sJ ⟨3,s,u,t,0,ps,b⟩ pa pc ba bc) (by simp [results,Tryz.results68,go_sem,z0,z1,z2,z3,z4,z5,z6,z7,z8]) rfl ?_
         exact wC G h.out YT.out YU.out ae.out ⟨hs,hzu,Ag,(Ig.out.later YV.out (by omega) (by (try simp only [World.bC]);omega)),hbl,m,qY.out.later YW.out (by omega) (by (try simp only [World.bC]);omega)⟩
theorem YX (E:Env)(G:Good E)(op:Int)(hB:Hid (Dt E op))(hX:Hid (uC E op 66 (Rp.box E.l E.en)))(hF:Hid (uC E op 67 (Rp.function E.l E.en)))(hN:Hid (uC E op 68 (Rp.uq E.l E.en))):uC E op 37 (Rp.df E.l E.en):=by
 intro p r w h hp hr
 have hR:=h.out.lt
 obtain ⟨t,ht⟩:∃ t,t=pk E.l p E.en:=⟨_,rfl⟩
 have HT:=aa ht
 have Dw:Hid (r=if t.text=⟨#[98,111,120]⟩ then Rp.box E.l E.en p else if t.text=⟨#[102,110]⟩ then Rp.function E.l E.en p else if t.text=⟨#[103,101,110]⟩ then Rp.uq E.l E.en p else Rp.task E.l E.en p):=by rw [hr.out,ht];rfl
 clear ht
 go_enter Tryz.func37,Tryz.ntmps37
 go_wp2_with fail
 refine (zL E G p _ t _ (aa (h.out.alloc G _)) hp HT).mono ?_
 rintro e w0 ⟨rfl,hb0⟩
 have aY:Hid (w.grownBy w0 (some E.R)):=ay (dM (eD (Below.refl _ w)) _) (eD hb0)
 have HD0:Hid (az E w0 p op):=(h.out.alloc G _).on G hb0
 have HZ0:Hid (w0.heap[w.heap.size]?=some dh):=(hb0.block _ (by simp)).trans (heap_alloc_new w dh)
 have hw0:w.heap.size<w0.heap.size:=lt_of_block HZ0.out
 clear hb0
 have e0:=Cs t.kind t.num t.pos t.text w0
 obtain ⟨b1,hb1⟩:∃ b,b=decide (t.text=⟨#[98,111,120]⟩):=⟨_,rfl⟩
 have e1:(t.text.toList==[98,111,120])=b1:=by rw [← (show ByteArray.toList ⟨#[98,111,120]⟩=[98,111,120] by simp)];exact vw hb1
 have c1:=aa hb1
 clear hb1
 cases b1 with
 | true =>
  have gF:Hid (r=Rp.box E.l E.en p):=by unfold Hid;rw [Dw.out,if_pos (by have:=c1.out;simpa using this)]
  go_wp2_with fail
  refine (hX.out p r _ HD0 hp gF).mono ?_
  rintro e w8 ⟨aL,bL⟩
  have bT:Hid (w.grownBy w8 (some E.R)):=ay aY.out aL
  have bz:w8.heap[w.heap.size]?=some dh:=aA aL (by omega) HZ0.out
  cases r with
  | error er =>
   obtain ⟨e1,e2⟩:=er
   obtain ⟨rfl,aD⟩:=bL
   have aS:=aa aD
   clear aD aL bz
   go_wp2
   exact ⟨rfl,bT.out,rfl,aS.out⟩
  | ok qx =>
   obtain ⟨q,d⟩:=qx
   obtain ⟨⟨v,rfl,pa,pc,ba,bc,rfl,hq⟩,aD⟩:=bL
   have aS:=aa aD
   have HQ:Hid (mi (fun b=>w.heap.size<b∧b<w8.heap.size) w8 d pa ba):=hq.keep (fun b hb=>⟨⟨by have:=hb.1;omega,hb.2⟩,rfl⟩)
   obtain ⟨⟨z0,z1,z2,z3,z4,z5,z6,z7,z8⟩,y0,y1,y2,y3,y4,y5,y6,y7,y8⟩:=kM bz
   clear aD aL hq bz
   go_wp2
   refine bodyPost_ret (v:=sJ d pa pc ba bc) (by simp [results,Tryz.results37,go_sem,z0,z1,z2,z3,z4,z5,z6,z7,z8]) rfl ?_
   exact wC G h.out bT.out aS.out rfl HQ.out
 | false =>
  obtain ⟨b2,hb2⟩:∃ b,b=decide (t.text=⟨#[102,110]⟩):=⟨_,rfl⟩
  have e2:(t.text.toList==[102,110])=b2:=by rw [← (show ByteArray.toList ⟨#[102,110]⟩=[102,110] by simp)];exact vw hb2
  have c2:=aa hb2
  clear hb2
  cases b2 with
  | true =>
   have gF:Hid (r=Rp.function E.l E.en p):=by unfold Hid;rw [Dw.out,if_neg (by have:=c1.out;simpa using this),if_pos (by have:=c2.out;simpa using this)]
   go_wp2_with fail
   refine (hF.out p r _ HD0 hp gF).mono ?_
   rintro e w8 ⟨aL,bL⟩
   have bT:Hid (w.grownBy w8 (some E.R)):=ay aY.out aL
   have bz:w8.heap[w.heap.size]?=some dh:=aA aL (by omega) HZ0.out
   cases r with
   | error er =>
    obtain ⟨e1,e2⟩:=er
    obtain ⟨rfl,aD⟩:=bL
    have aS:=aa aD
    clear aD aL bz
    go_wp2
    exact ⟨rfl,bT.out,rfl,aS.out⟩
   | ok qx =>
    obtain ⟨q,d⟩:=qx
    obtain ⟨⟨v,rfl,pa,pc,ba,bc,rfl,hq⟩,aD⟩:=bL
    have aS:=aa aD
    have HQ:Hid (mi (fun b=>w.heap.size<b∧b<w8.heap.size) w8 d pa ba):=hq.keep (fun b hb=>⟨⟨by have:=hb.1;omega,hb.2⟩,rfl⟩)
    obtain ⟨⟨z0,z1,z2,z3,z4,z5,z6,z7,z8⟩,y0,y1,y2,y3,y4,y5,y6,y7,y8⟩:=kM bz
    clear aD aL hq bz
    go_wp2
    refine bodyPost_ret (v:=sJ d pa pc ba bc) (by simp [results,Tryz.results37,go_sem,z0,z1,z2,z3,z4,z5,z6,z7,z8]) rfl ?_
    exact wC G h.out bT.out aS.out rfl HQ.out
  | false =>
   obtain ⟨b3,hb3⟩:∃ b,b=decide (t.text=⟨#[103,101,110]⟩):=⟨_,rfl⟩
   have e3:(t.text.toList==[103,101,110])=b3:=by rw [← (show ByteArray.toList ⟨#[103,101,110]⟩=[103,101,110] by simp)];exact vw hb3
   have c3:=aa hb3
   clear hb3
   cases b3 with
   | true =>
    have gF:Hid (r=Rp.uq E.l E.en p):=by unfold Hid;rw [Dw.out,if_neg (by have:=c1.out;simpa using this),if_neg (by have:=c2.out;simpa using this),if_pos (by have:=c3.out;simpa using this)]
    go_wp2_with fail
    refine (hN.out p r _ HD0 hp gF).mono ?_
    rintro e w8 ⟨aL,bL⟩
    have bT:Hid (w.grownBy w8 (some E.R)):=ay aY.out aL
    have bz:w8.heap[w.heap.size]?=some dh:=aA aL (by omega) HZ0.out
    cases r with
    | error er =>
     obtain ⟨e1,e2⟩:=er
     obtain ⟨rfl,aD⟩:=bL
     have aS:=aa aD
     clear aD aL bz
     go_wp2
     exact ⟨rfl,bT.out,rfl,aS.out⟩
    | ok qx =>
     obtain ⟨q,d⟩:=qx
     obtain ⟨⟨v,rfl,pa,pc,ba,bc,rfl,hq⟩,aD⟩:=bL
     have aS:=aa aD
     have HQ:Hid (mi (fun b=>w.heap.size<b∧b<w8.heap.size) w8 d pa ba):=hq.keep (fun b hb=>⟨⟨by have:=hb.1;omega,hb.2⟩,rfl⟩)
     obtain ⟨⟨z0,z1,z2,z3,z4,z5,z6,z7,z8⟩,y0,y1,y2,y3,y4,y5,y6,y7,y8⟩:=kM bz
     clear aD aL hq bz
     go_wp2
     refine bodyPost_ret (v:=sJ d pa pc ba bc) (by simp [results,Tryz.results37,go_sem,z0,z1,z2,z3,z4,z5,z6,z7,z8]) rfl ?_
     exact wC G h.out bT.out aS.out rfl HQ.out
   | false =>
    have aR:Hid (r=Rp.task E.l E.en p):=by unfold Hid;rw [Dw.out,if_neg (by have:=c1.out;simpa using this),if_neg (by have:=c2.out;simpa using this),if_neg (by have:=c3.out;simpa using this)]
    obtain ⟨r1,hr1⟩:∃ r1,r1=Rp.want E.l E.en ⟨#[116,97,115,107]⟩ p:=⟨_,rfl⟩
    have HR1:=aa hr1
    have bI:Hid (r=Rp.andThen r1 fun q1 _=>Rp.andThen (Rp.name E.l E.en q1) fun q2 s=>Rp.andThen (Rp.body E.l E.en 200 q2) fun q3 b=>.ok (q3,⟨4,s,Rp.T0,Rp.T0,0,[],b⟩)):=by rw [aR.out,hr1];rfl
    have HA1:Hid (∀ q x,r1=.ok (q,x)→q≤E.l.length):=fun q x hx=>(Rp.eH E.l E.en _ p q x hp (by rw [← hr1,hx])).2
    clear hr1
    go_wp2_with fail
    refine (iW E G p _ ⟨#[116,97,115,107]⟩ r1 _ HD0 hp HR1).mono ?_
    rintro e w1 ⟨hg1,hf1⟩
    have ax:Hid (w.grownBy w1 (some E.R)):=ay aY.out hg1
    have hs1:=hg1.size
    (try simp only [dn] at hs1)
    (try simp only [World.bC] at hs1)
    have HZ1:Hid (w1.heap[w.heap.size]?=some dh):=aA hg1 (by omega) HZ0.out
    clear hg1
    cases r1 with
    | error er =>
     obtain ⟨e1,e2⟩:=er
     obtain ⟨rfl,hd1⟩:=hf1
     have HD1:=aa hd1
     have ae:Hid (r=.error (e1,e2)):=bI.out
     clear hd1
     go_wp2
     exact ⟨rfl,ax.out,by rw [ae.out];exact ⟨rfl,HD1.out⟩⟩
    | ok qx =>
     obtain ⟨q1,u1⟩:=qx
     obtain ⟨⟨v,rfl,rfl⟩,hd1⟩:=hf1
     have hq1:q1≤E.l.length:=HA1.out q1 u1 rfl
     have HD1:=aa hd1
     clear hd1
     obtain ⟨r2,hr2⟩:∃ r2,r2=Rp.name E.l E.en q1:=⟨_,rfl⟩
     have HR2:=aa hr2
     have HE2:Hid (r=Rp.andThen r2 fun q2 s=>Rp.andThen (Rp.body E.l E.en 200 q2) fun q3 b=>.ok (q3,⟨4,s,Rp.T0,Rp.T0,0,[],b⟩)):=by rw [bI.out,hr2];rfl
     have HA2:Hid (∀ q x,r2=.ok (q,x)→q≤E.l.length):=fun q x hx=>(Rp.jX E.l E.en q1 q x hq1 (by rw [← hr2,hx])).2
     clear hr2
     go_wp2_with fail
     refine (qO E G q1 _ r2 _ HD1 hq1 HR2).mono ?_
     rintro e w2 ⟨hg2,hf2⟩
     have HG2:Hid (w.grownBy w2 (some E.R)):=ay ax.out hg2
     have hs2:=hg2.size
     (try simp only [dn] at hs2)
     (try simp only [World.bC] at hs2)
     have HZ2:Hid (w2.heap[w.heap.size]?=some dh):=aA hg2 (by omega) HZ1.out
     clear hg2
     cases r2 with
     | error er =>
      obtain ⟨e1,e2⟩:=er
      obtain ⟨rfl,hd2⟩:=hf2
      have HD2:=aa hd2
      have ae:Hid (r=.error (e1,e2)):=HE2.out
      clear hd2
      go_wp2
      exact ⟨rfl,HG2.out,by rw [ae.out];exact ⟨rfl,HD2.out⟩⟩
     | ok qx =>
      obtain ⟨q2,s⟩:=qx
      obtain ⟨⟨v,rfl,rfl,hs⟩,hd2⟩:=hf2
      have hq2:q2≤E.l.length:=HA2.out q2 s rfl
      have eQ:w.heap.size<w2.heap.size:=lt_of_block HZ2.out
      have wD:Hid (az E (w2.alloc (cK 4 s 0 ⟨#[]⟩ 0 ⟨#[]⟩ 0 (.slice none 0 0) (.slice none 0 0))) q2 op):=hd2.alloc G _
      have wE:Hid (w.grownBy (w2.alloc (cK 4 s 0 ⟨#[]⟩ 0 ⟨#[]⟩ 0 (.slice none 0 0) (.slice none 0 0))) (some E.R)):=dM HG2.out _
      have wF:Hid ((w2.alloc (cK 4 s 0 ⟨#[]⟩ 0 ⟨#[]⟩ 0 (.slice none 0 0) (.slice none 0 0))).heap[w.heap.size]?=some dh):=(Below.heap_alloc _ _ _ eQ).trans HZ2.out
      have wG:Hid ((w2.alloc (cK 4 s 0 ⟨#[]⟩ 0 ⟨#[]⟩ 0 (.slice none 0 0) (.slice none 0 0))).heap[w2.heap.size]?=some (cK 4 s 0 ⟨#[]⟩ 0 ⟨#[]⟩ 0 (.slice none 0 0) (.slice none 0 0))):=heap_alloc_new w2 _
      clear hd2
      obtain ⟨r3,hr3⟩:∃ r3,r3=Rp.body E.l E.en 200 q2:=⟨_,rfl⟩
      have HR3:=aa hr3
      have gy:Hid (r=Rp.andThen r3 fun q3 b=>.ok (q3,⟨4,s,Rp.T0,Rp.T0,0,[],b⟩)):=by rw [HE2.out,hr3];rfl
      have pY:Hid (∀ q x,r3=.ok (q,x)→q≤E.l.length):=fun q x hx=>(Rp.qL E.l E.en 200 q2 q x hq2 (by rw [← hr3,hx])).2
      clear hr3
      go_wp2_with fail
      refine (hB.out q2 r3 _ wD hq2 HR3).mono ?_
      rintro e w3 ⟨hg3,hf3⟩
      have aK:Hid (w.grownBy w3 (some E.R)):=ay wE.out hg3
      have hs3:=hg3.size
      (try simp only [dn] at hs3)
      (try simp only [World.bC] at hs3)
      have HZ3:Hid (w3.heap[w.heap.size]?=some dh):=aA hg3 (by omega) wF.out
      have mg:Hid (w3.heap[w2.heap.size]?=some (cK 4 s 0 ⟨#[]⟩ 0 ⟨#[]⟩ 0 (.slice none 0 0) (.slice none 0 0))):=aA hg3 (by omega) wG.out
      clear hg3
      cases r3 with
      | error er =>
       obtain ⟨e1,e2⟩:=er
       obtain ⟨rfl,hd3⟩:=hf3
       have HD3:=aa hd3
       have ae:Hid (r=.error (e1,e2)):=gy.out
       clear hd3
       go_wp2
       exact ⟨rfl,aK.out,by rw [ae.out];exact ⟨rfl,HD3.out⟩⟩
      | ok qx =>
       obtain ⟨q3,b⟩:=qx
       obtain ⟨⟨v,rfl,ba,bc,m,rfl,hbl,hrow⟩,hd3⟩:=hf3
       have hq3:q3≤E.l.length:=pY.out q3 b rfl
       have qY:Hid (dO (fun j=>(w2.heap.size+1)≤j∧j<w3.heap.size) w3 (bH (fun j=>(w2.heap.size+1)≤j∧j<w3.heap.size) w3 m) b ba) :=
        have h2:∀ j,gK (w2.alloc (cK 4 s 0 ⟨#[]⟩ 0 ⟨#[]⟩ 0 (.slice none 0 0) (.slice none 0 0))) w3 j→((w2.heap.size+1)≤j∧j<w3.heap.size)∧w3.heap[j]?=w3.heap[j]?:=fun j hj=>⟨⟨by have h1:=hj.1;(try simp only [dn] at h1);(try simp only [World.bC] at h1);exact h1,hj.2⟩,rfl⟩
        dO.keep h2 (fun _ _ _ _ hx=>bH.keep h2 hx) hrow
       have Ah:Hid (Kept (w2.heap.size+1) w3.heap.size w3 w3):=Kept.refl _ _ _
       clear hrow
       have wH:Hid (w.grownBy (w3.setCell ⟨w2.heap.size,8,none⟩ (.slice ba b.length bc)) (some E.R)):=gD (aK.out) (Nat.le_of_lt eQ) _
       have wI:Hid (az E (w3.setCell ⟨w2.heap.size,8,none⟩ (.slice ba b.length bc)) q3 op):=az.set h.out (hd3) G (aK.out) (a:=⟨w2.heap.size,8,none⟩) (Nat.le_of_lt eQ) _
       have yl:Hid ((w3.setCell ⟨w2.heap.size,8,none⟩ (.slice ba b.length bc)).heap[w.heap.size]?=some dh):=(Below.heap_setCell _ ⟨w2.heap.size,8,none⟩ _ _ (by show w.heap.size≠w2.heap.size;omega)).trans (HZ3.out)
       have ym:Hid ((w3.setCell ⟨w2.heap.size,8,none⟩ (.slice ba b.length bc)).heap[w2.heap.size]?=some (cK 4 s 0 ⟨#[]⟩ 0 ⟨#[]⟩ 0 (.slice none 0 0) (.slice ba b.length bc))):=H9 mg.out _
       have YY:Hid (Kept (w2.heap.size+1) w3.heap.size w3 (w3.setCell ⟨w2.heap.size,8,none⟩ (.slice ba b.length bc))):=(Ah.out).set (p:=⟨w2.heap.size,8,none⟩) (.inl (by show w2.heap.size<_;omega)) _
       obtain ⟨⟨x0,x1,x2,x3,x4,x5,x6,x7,x8⟩,f0,f1,f2,f3,f4,f5,f6,f7,f8⟩:=kM mg.out
       clear hd3
       have ae:Hid (r=.ok (q3,⟨4,s,Rp.T0,Rp.T0,0,[],b⟩)):=gy.out
       obtain ⟨⟨z0,z1,z2,z3,z4,z5,z6,z7,z8⟩,y0,y1,y2,y3,y4,y5,y6,y7,y8⟩:=kM HZ3.out
       have hne:w.heap.size≠w2.heap.size:=by omega
       go_wp2
       refine bodyPost_ret (v:=sJ ⟨4,s,Rp.T0,Rp.T0,0,[],b⟩ none 0 ba bc) (by simp [results,Tryz.results37,go_sem,z0,z1,z2,z3,z4,z5,z6,z7,z8]) rfl ?_
       exact wC G h.out wH.out wI.out ae.out ⟨hs,(by show (ByteArray.mk #[]).size≤6000;decide),(by show (ByteArray.mk #[]).size≤6000;decide),(lW.nil _ _ _),hbl,m,qY.out.later YY.out (by omega) (by (try simp only [World.bC]);omega)⟩
theorem Tryz.YZ:(Tryz.prog.info? 50).map (fun i=>(i.zero,i.size,i.bytes))=some (some (.agg #[.int .i64 0,.string ⟨#[]⟩,.int .i64 0,.string ⟨#[]⟩,.int .i64 0,.string ⟨#[]⟩,.int .i64 0,.slice none 0 0,.slice none 0 0]),9,128):=by kernel_rfl
abbrev mX:=Sy.Df × (Option Addr × Nat) × (Option Addr × Nat)
abbrev ru (i:mX):List Value:=[.int .i64 i.1.kind,.string i.1.name,.int .i64 i.1.ty.kind,.string i.1.ty.gen,.int .i64 i.1.takes.kind,.string i.1.takes.gen,.int .i64 i.1.cap,.slice i.2.1.1 i.1.params.length i.2.1.2,.slice i.2.2.1 i.1.body.length i.2.2.2]
def nW (its:List mX):List Value:=its.flatMap ru
theorem OW:∀ its,(nW its).length=its.length * 9
 | []=>rfl
 | i :: its=>by have:=OW its;simp only [nW,List.flatMap_cons,List.length_append,List.length_cons] at *;simp only [this,List.length_nil];omega
theorem Y0 (l:List mX)(i:mX):nW (l++[i])=nW l++ru i:=by simp [nW]
theorem OX:∀ (its:List mX) (i:Nat) (it:mX),its[i]?=some it→∀ j,j<9→(nW its)[i * 9+j]?=(ru it)[j]?
 | [],i,it,h,_,_=>by simp at h
 | x :: its,0,it,h,j,hj=>by
  simp at h;subst h
  simp only [nW,List.flatMap_cons,Nat.zero_mul,Nat.zero_add]
  rw [List.getElem?_append_left (by simpa using hj)]
 | x :: its,i+1,it,h,j,hj=>by
  have ih:=OX its i it (by simpa using h) j hj
  simp only [nW,List.flatMap_cons] at ih ⊢
  rw [List.getElem?_append_right (by simp;omega)]
  have e:(i+1) * 9+j - (ru x).length=i * 9+j:=by simp;omega
  rw [e,ih]
theorem Y1 (it:mX):∀ u ∈ ru it,u.oneCell'=true:=by
 intro u ho
 simp only [List.mem_cons,List.not_mem_nil,or_false] at ho
 rcases ho with rfl | rfl | rfl | rfl | rfl | rfl | rfl | rfl | rfl <;> rfl
theorem Y2 (W:World)(it:mX)(t:TypeId):∀ j u,(ru it)[j]?=some u→(W.alloc (.cells (ru it).toArray t)).cell? ((⟨W.heap.size,0,none⟩:Addr).add j)=some u:=by
 intro j u hu
 have hadd:(⟨W.heap.size,0,none⟩:Addr).add j=⟨W.heap.size,j,none⟩:=by unfold Addr.add;split <;> simp_all
 rw [hadd,World.cell?_alloc_mark]
 simpa using hu
def mo (Q:Nat→Prop)(w:World)(l:List Sy.Df)(a:Option Addr):Prop :=
 ∀ i d,l[i]?=some d→∃ b off pa pc ba bc,a=some ⟨b,off,none⟩∧Q b ∧
   w.cell? ⟨b,off+i * 9,none⟩=some (.int .i64 d.kind)∧w.cell? ⟨b,off+i * 9+1,none⟩=some (.string d.name) ∧
   w.cell? ⟨b,off+i * 9+2,none⟩=some (.int .i64 d.ty.kind)∧w.cell? ⟨b,off+i * 9+3,none⟩=some (.string d.ty.gen) ∧
   w.cell? ⟨b,off+i * 9+4,none⟩=some (.int .i64 d.takes.kind)∧w.cell? ⟨b,off+i * 9+5,none⟩=some (.string d.takes.gen) ∧
   w.cell? ⟨b,off+i * 9+6,none⟩=some (.int .i64 d.cap)∧w.cell? ⟨b,off+i * 9+7,none⟩=some (.slice pa d.params.length pc) ∧
   w.cell? ⟨b,off+i * 9+8,none⟩=some (.slice ba d.body.length bc)∧mi Q w d pa ba
theorem mo.kL {Q:Nat→Prop}{w:World}{B:Nat}(hQ:∀ b,Q b→b<B){l:List Sy.Df}{a:Option Addr}(h:mo Q w l a)(hl:l.length≤6000):dS B w l a:=⟨by unfold maxLen;omega,fun i d hi=>by
 obtain ⟨b,off,pa,pc,ba,bc,ha,hb,r1,r2,r3,r4,r5,r6,r7,r8,r9,hin⟩:=h i d hi
 exact ⟨b,off,pa,pc,ba,bc,ha,hQ b hb,r1,r2,r3,r4,r5,r6,r7,r8,r9,hin.kL hQ⟩⟩
theorem mo.keep {Q Q':Nat→Prop}{w w':World}(hk:∀ b,Q b→Q' b∧w'.heap[b]?=w.heap[b]?){l:List Sy.Df}{a:Option Addr}(h:mo Q w l a):mo Q' w' l a:=fun i d hi=>by
 obtain ⟨b,off,pa,pc,ba,bc,ha,hb,r1,r2,r3,r4,r5,r6,r7,r8,r9,hin⟩:=h i d hi
 have hc:∀ o,w'.cell? ⟨b,o,none⟩=w.cell? ⟨b,o,none⟩:=fun o=>World.cell?_of_block (a:=⟨b,o,none⟩) (hk b hb).2
 exact ⟨b,off,pa,pc,ba,bc,ha,(hk b hb).1,(hc _).trans r1,(hc _).trans r2,(hc _).trans r3,(hc _).trans r4,(hc _).trans r5,(hc _).trans r6,(hc _).trans r7,(hc _).trans r8,(hc _).trans r9,hin.keep hk⟩
theorem Y3 {Q:Nat→Prop}{w:World}{B n:Nat}{v:Value}{its:List mX}(hown:w.ownsRow B 50 9 v n (nW its))(hit:∀ it ∈ its,mi Q w it.1 it.2.1.1 it.2.2.1)(hQ:∀ g,v.ownBlock=some g→Q g) :
  ∃ a c,v=.slice a its.length c∧mo Q w (its.map (·.1)) a:=by
 have hl:its.length=n:=by have:=hown.1;rw [OW] at this;omega
 subst hl
 rcases hown.2 with ⟨rfl,h0⟩ | ⟨g,cap,cur,rfl,hg,hh,_,_,_,ht⟩
 ·refine ⟨none,0,by rw [h0],fun i k hk=>?_⟩
  have:=(List.getElem?_eq_some_iff.1 hk).1
  simp at this
  omega
 ·refine ⟨_,cap,rfl,fun i k hk=>?_⟩
  obtain ⟨it,hi,rfl⟩:∃ it,its[i]?=some it∧it.1=k:=by simpa using hk
  have hlt:=(List.getElem?_eq_some_iff.1 hi).1
  have key:∀ j,j<9→w.cell? ⟨g,0+i * 9+j,none⟩=(ru it)[j]?:=by
   intro j hj
   have e:=OX its i it hi j hj
   rw [← ht,List.getElem?_take,if_pos (by omega)] at e
   rw [Nat.zero_add,← e]
   simp [World.cell?,hh]
  exact ⟨g,0,it.2.1.1,it.2.1.2,it.2.2.1,it.2.2.2,rfl,hQ g rfl,key 0 (by decide),key 1 (by decide),key 2 (by decide),key 3 (by decide),key 4 (by decide),key 5 (by decide),key 6 (by decide),key 7 (by decide),key 8 (by decide),hit it (List.mem_of_getElem? hi)⟩
structure sK (E:Env) (op:Int) (w:World) (r:au (List Sy.Df)) (its:List mX) (q fu:Nat) (v:Value) (W:World):Prop where
 own:W.ownsRow w.heap.size 50 9 v its.length (nW its)
 H6:∀ it ∈ its,mi (fun b=>w.heap.size≤b∧b<W.heap.size∧v.ownBlock≠some b) W it.1 it.2.1.1 it.2.2.1
 eP:az E W q op
 le:q≤E.l.length
 grown:w.grownBy W (some E.R)
 eq:r=Rp.fH E.l E.en fu (its.map (·.1)) q
 fuel:E.l.length<q+fu
 few:its.length≤q
theorem sK.kept {E:Env}{op:Int}{w:World}{r:au (List Sy.Df)}{its:List mX}{q fu:Nat}{v:Value}{W W':World}(b:sK E op w r its q fu v W)(hR:E.R<w.heap.size)(hg:W.grownBy W' (some E.R)) :
  W'.ownsRow w.heap.size 50 9 v its.length (nW its)∧(∀ it ∈ its,mi (fun b=>w.heap.size≤b∧b<W'.heap.size∧v.ownBlock≠some b) W' it.1 it.2.1.1 it.2.2.1)∧w.grownBy W' (some E.R):=by
 have hs:=hg.size
 refine ⟨b.own.kept hg ?_,fun it hit=>(b.H6 it hit).keep (fun k hk=>⟨⟨hk.1,by omega,hk.2.2⟩,hg.block k hk.2.1 (by simp;omega)⟩),ay b.grown hg⟩
 cases hv:v.ownBlock with
 | none=>exact .inl rfl
 | some g=>right;have:=b.own.lt g hv;simp;omega
theorem sK.next {E:Env}{op:Int}{w:World}{r:au (List Sy.Df)}{its:List mX}{q fu:Nat}{v:Value}{W Wk w3 w4:World}{q2 g cap:Nat}{it:mX}{ob:Obj}(G:Good E){p:Nat}{GJ:Int}(h0:az E w p GJ)(b:sK E op w r its q (fu+1) v W)(hg1:W.grownBy Wk (some E.R))(hg2:Wk.grownBy w3 (some E.R))(hd3:az E w3 q2 op)
  (hit:mi (gK Wk w3) w3 it.1 it.2.1.1 it.2.2.1) (hq:q<q2∧q2≤E.l.length) (hr:r=Rp.fH E.l E.en fu ((its.map (·.1))++[it.1]) q2)
  (hown:w4.ownsRow w.heap.size 50 9 (.slice (some ⟨g,0,none⟩) (its.length+1) cap) (its.length+1) (nW its++ru it)) (hgr:(w3.alloc ob).grownBy w4 v.ownBlock) (hw:v.ownBlock=some g∨g=(w3.alloc ob).heap.size) :
  sK E op w r (its++[it]) q2 fu (.slice (some ⟨g,0,none⟩) (its.length+1) cap) w4:=by
 have hR:=h0.lt
 obtain ⟨o3,s3,g3⟩:=b.kept hR (ay hg1 hg2)
 have hsk:=hg1.size
 have hs3:=hg2.size
 have hs4:=hgr.size
 have hsw:=b.grown.size
 simp only [dn] at hs4
 have hvb:∀ k,v.ownBlock=some k→w.heap.size≤k∧k<W.heap.size:=fun k hk=>b.own.lt k hk
 have far:∀ k,k<w3.heap.size→v.ownBlock≠some k→w4.heap[k]?=w3.heap[k]?:=fun k hk hn=>(hgr.block k (by simp;omega) (fun e=>hn e.symm)).trans (Below.heap_alloc _ _ _ hk)
 have uw:∀ k,k<w3.heap.size→v.ownBlock≠some k→(Value.slice (some ⟨g,0,none⟩) (its.length+1) cap).ownBlock≠some k:=by
  intro k hk hn e
  simp only [Value.ownBlock,Option.some.injEq] at e
  rcases hw with e2 | e2
  ·exact hn (by rw [e2,e])
  ·simp only [dn] at e2;omega
 have hgw:w.grownBy w4 (some E.R):=⟨hgr.os.trans g3.os,hgr.tape.trans g3.tape,hgr.output.trans g3.output,by omega,fun k hk hn=>by
  rw [far k (by omega) (fun e=>by have:=(hvb k e).1;omega)];exact g3.block k hk hn⟩
 refine ⟨by rw [Y0];simpa using hown,fun i hi=>?_,h0.grown G hgw ((far E.R (by omega) (fun e=>by have:=(hvb _ e).1;omega)).trans hd3.rd),hq.2,hgw,by rw [List.map_append];exact hr,by have:=b.fuel;omega,by have:=b.few;simp;omega⟩
 rcases List.mem_append.1 hi with hi | hi
 ·exact ((s3 i hi).keep (fun k hk=>⟨⟨hk.1,by omega,uw k hk.2.1 hk.2.2⟩,far k hk.2.1 hk.2.2⟩))
 ·simp only [List.mem_singleton] at hi
  subst hi
  have hn:∀ k,gK Wk w3 k→v.ownBlock≠some k:=fun k hk e=>by have h1:=(hvb k e).2;have h2:=hk.1;omega
  exact (hit.keep (fun k hk=>⟨⟨by have:=hk.1;omega,by have:=hk.2;omega,uw k hk.2 (hn k hk)⟩,far k hk.2 (hn k hk)⟩))
def Ai (w:World):World→List Sy.Df→Value→Prop:=fun w' l v=>∃ a c,v=.slice a l.length c∧l.length≤6000∧mo (gK w w') w' l a
theorem sK.out {E:Env}{op:Int}{w:World}{r:au (List Sy.Df)}{its:List mX}{q fu:Nat}{v:Value}{W W':World}(b:sK E op w r its q fu v W)(hR:E.R<w.heap.size)(few:E.l.length≤6000)(hg:W.grownBy W' (some E.R)):Ai w W' (its.map (·.1)) v:=by
 obtain ⟨o3,s3,g3⟩:=b.kept hR hg
 obtain ⟨a,c,hv,hq⟩:=Y3 (Q:=gK w W') o3 (fun it hit=>(s3 it hit).keep (fun k hk=>⟨⟨hk.1,hk.2.1⟩,rfl⟩)) (fun g hgg=>o3.lt g hgg)
 exact ⟨a,c,by rw [hv];simp,by have:=b.few;have:=b.le;simp;omega,hq⟩
theorem Rp.Y4 (l:List Lx.Tk)(en:Nat):Rp.dF l (Rp.box l en):=by
 intro p q x hp h
 obtain ⟨q1,x1,_,a1,b1,h⟩:=Rp.dZ (Rp.eH l en _) hp h
 obtain ⟨q2,x2,_,a2,b2,h⟩:=Rp.dZ (Rp.jX l en) b1 h
 obtain ⟨q3,x3,_,a3,b3,h⟩:=Rp.dZ (Rp.rU l en) b2 h
 obtain ⟨q4,x4,_,a4,b4,h⟩:=Rp.dZ (Rp.Mq l en) b3 h
 obtain ⟨q5,x5,_,a5,b5,h⟩:=Rp.dZ (Rp.eH l en _) b4 h
 simp at h
 omega
theorem Rp.Y5 (l:List Lx.Tk)(en:Nat):Rp.dF l (Rp.function l en):=by
 intro p q x hp h
 obtain ⟨q1,x1,_,a1,b1,h⟩:=Rp.dZ (Rp.eH l en _) hp h
 obtain ⟨q2,x2,_,a2,b2,h⟩:=Rp.dZ (Rp.jX l en) b1 h
 obtain ⟨q3,x3,_,a3,b3,h⟩:=Rp.dZ (Rp.CL l en) b2 h
 obtain ⟨q4,x4,_,a4,b4,h⟩:=Rp.dZ (Rp.rU l en) b3 h
 obtain ⟨q5,x5,_,a5,b5,h⟩:=Rp.dZ (Rp.qL l en 200) b4 h
 simp at h
 omega
theorem Rp.Y6 (l:List Lx.Tk)(en:Nat):Rp.dF l (Rp.uq l en):=by
 intro p q x hp h
 obtain ⟨q1,x1,_,a1,b1,h⟩:=Rp.dZ (Rp.eH l en _) hp h
 obtain ⟨q2,x2,_,a2,b2,h⟩:=Rp.dZ (Rp.jX l en) b1 h
 obtain ⟨q3,x3,_,a3,b3,h⟩:=Rp.dZ (Rp.CL l en) b2 h
 obtain ⟨q4,x4,_,a4,b4,h⟩:=Rp.dZ (Rp.eH l en _) b3 h
 obtain ⟨q5,x5,_,a5,b5,h⟩:=Rp.dZ (Rp.rU l en) b4 h
 obtain ⟨q6,x6,_,a6,b6,h⟩:=Rp.dZ (Rp.eH l en _) b5 h
 obtain ⟨q7,x7,_,a7,b7,h⟩:=Rp.dZ (Rp.rU l en) b6 h
 obtain ⟨q8,x8,_,a8,b8,h⟩:=Rp.dZ (Rp.qL l en 200) b7 h
 simp at h
 omega
theorem Rp.Y7 (l:List Lx.Tk)(en:Nat):Rp.dF l (Rp.task l en):=by
 intro p q x hp h
 obtain ⟨q1,x1,_,a1,b1,h⟩:=Rp.dZ (Rp.eH l en _) hp h
 obtain ⟨q2,x2,_,a2,b2,h⟩:=Rp.dZ (Rp.jX l en) b1 h
 obtain ⟨q3,x3,_,a3,b3,h⟩:=Rp.dZ (Rp.qL l en 200) b2 h
 simp at h
 omega
theorem Rp.Y8 (l:List Lx.Tk)(en:Nat):Rp.dF l (Rp.df l en):=by
 intro p q x hp h
 unfold Rp.df at h
 split at h
 ·exact Rp.Y4 l en p q x hp h
 split at h
 ·exact Rp.Y5 l en p q x hp h
 split at h
 ·exact Rp.Y6 l en p q x hp h
 exact Rp.Y7 l en p q x hp h
end Go.Proofs.YtolfleeidpeomaaGreatDoor
