/- The walk of slices.Clone. -/
import Derived.Test.YtfcpglhpolpdcaaGreatDoorM5
import Derived.Test.YtfcpglhpolpdcaaGreatDoorM4
set_option maxHeartbeats 400000
namespace Go.Proofs.YtfcpglhpolpdcaaGreatDoor.Sb
open Go.RowKit
theorem CK.alloc {w:World}{g:Nat}{ws:List Int}{r:Nat}(h:CK w g ws r)(o:Obj):CK (w.alloc o) g ws r:=by
 obtain⟨cs,hc,hr⟩:=h;exact⟨cs,(Below.heap_alloc _ _ _ (lt_of_block hc)).trans hc,hr⟩
theorem not_nil (g c r:Nat)(w:World):Sem.run Tryz.prog (binOp BinOp.eql 38 (.slice (some ⟨g,0,none⟩) c r) (.slice none 0 0)) w=.ok (.bool false) w:=by kernel_rfl
theorem Dc (g:Nat)(ws:List Int)(r c:Nat)(w:World)(h:Hid (CK w g ws r))(hc:Hid (c=ws.length))(hl:ws.length≤400) :
  Calls Tryz.prog 64 #[.slice (some ⟨g,0,none⟩) c r] w fun e w'=>∃ v,e=.returned v∧w'.ownsRow w.heap.size 2 1 v ws.length (ints ws)∧Below w.heap.size w w':=by
 obtain⟨i0,hi,hz0,hz1,hz2⟩:=info_parts Tryz.qp;have hnn:=not_nil g c r w;have hcl:c≤400:=by have:=hc.out;omega
 go_enter Tryz.func64,Tryz.ntmps64
 have HO:Hid ((w.alloc (.cells #[] 2)).ownsRow w.heap.size 2 1 (.slice (some ⟨w.heap.size,0,none⟩) 0 0) 0 []):=⟨rfl,.inr ⟨w.heap.size,0,#[],rfl,Nat.le_refl _,heap_alloc_new w _,Nat.le_refl _,Nat.zero_le _,rfl,rfl⟩⟩;have HN:Hid (∀ j u,(ints ws)[j]?=some u→(w.alloc (.cells #[] 2)).cell? ((⟨g,0,none⟩:Addr).add j)=some u):=CK.cellAt (h.out.alloc _);have HL:Hid ((ints ws).length=c * 1):=by unfold Hid;have:=hc.out;simp;omega
 go_wp2_with (at_builtin;refine wpList_append_own _ rfl _ _ 38 rfl w.heap.size 2 i0 (.int .i64 0) 1 8 Tryz.underlying38 hi hz0 hz1 hz2 rfl (by decide) _ _ _ rfl HO.out ⟨g,0,none⟩ c r (ints ws) rfl HL.out HN.out (Db ws) (by unfold maxLen;omega) (by omega) (by simp) ?_;intro v' w3 hown hgrow hz)
 have HW:Hid (w3.ownsRow w.heap.size 2 1 v' ws.length (ints ws)):=by
  unfold Hid;have:=hown;rw[hc.out] at this;simpa using this
 have hg2:(w.alloc (.cells #[] 2)).grownBy w3 (some w.heap.size):=hgrow;have HB:Hid (Below w.heap.size w w3):=((Below.refl _ w).alloc (Nat.le_refl _) _).grown hg2 (by simp) (fun k hk=>by simp at hk;omega);clear hown hgrow hz hg2;go_wp2
 go_ret
 exact⟨v',rfl,HW.out,HB.out⟩
theorem Gu {w:World}{B mn:Nat}{g:Nat}{xs:List Value}(h:w.ownsRow B 2 1 (.slice (some ⟨g,0,none⟩) mn mn) mn xs):CK w g [] mn:=by
 rcases h.2 with⟨hv,_⟩ | ⟨g',cap,cur,hv,_,hh,_,_,hc,_⟩
 ·simp at hv
 ·simp at hv
  obtain⟨rfl,rfl⟩:=hv;exact⟨cur.toList,hh,by simpa using hc,rfl⟩
theorem WH (mn most:Nat)(w:World)(h1:1≤mn)(h2:mn≤most)(h3:most≤400) :
  Calls Tryz.prog 141 #[.int .i64 mn,.int .i64 most] w fun e w'=>∃ S,e=.returned (.tuple #[.pointer (some ⟨S,0,none⟩),.int .i64 0])∧SK w' S w.heap.size [] mn mn most∧w.heap.size<S∧Below w.heap.size w w':=by
 obtain⟨i0,hi,hz0,hz1,hz2⟩:=info_parts Tryz.qp;have n1:¬ (mn:Int)<1:=by omega
 have n2:¬ (most:Int)<(mn:Int):=by omega
 have n3:¬ (400:Int)<(most:Int):=by omega
 go_enter Tryz.func141,Tryz.ntmps141
 go_wp2_with (at_make;refine wpList_make_full _ rfl _ _ 38 rfl w.heap.size 2 i0 (.int .i64 0) 1 Tryz.underlying38 hi hz0 hz1 _ _ _ _ mn rfl rfl rfl rfl (by rw[hz2];omega) (by unfold maxLen;omega) (Nat.le_refl _) ?_;intro w1 hown hgrow)
 have hb:Below w.heap.size w w1:=(Below.refl _ w).grown hgrow (Nat.le_refl _) (fun k hk=>by simp at hk);have hz:=lt_of_block (Gu hown).choose_spec.1;have mh:=hide (show SK (w1.alloc (mg w.heap.size 0 mn mn most)) w1.heap.size w.heap.size [] mn mn most from⟨heap_alloc_new w1 _,(Gu hown).alloc _,by unfold Sk.Fits;simp;omega⟩);have HB:=hide (hb.alloc hb.size (mg w.heap.size 0 mn mn most));clear hown hgrow n1 n2 n3 hb;go_wp2
 go_ret2
 exact⟨_,rfl,mh.out,hz,HB.out⟩
end Go.Proofs.YtfcpglhpolpdcaaGreatDoor.Sb
namespace Go.Proofs.YtfcpglhpolpdcaaGreatDoor.Vw
open Go.RowKit Vf Vm
abbrev ints (l:List Int):List Value:=l.map (.int .i64)
structure Lb where
 cls:Nat
 idx:Nat
 th:Nat
 part:Nat
abbrev av:=Nat→Lb
def Ext (L L':av)(w:World):Prop:=∀ b,b<w.heap.size→L' b=L b
structure bF (B:Nat) (L:av) (w:World):Prop where
 low:∀ b,b<B→(L b).cls=0
 new:∀ b,w.heap.size≤b→(L b).cls=0
 size:B≤w.heap.size
structure aQ (Q:Nat→Prop) (w w':World):Prop where
 os:w'.os=w.os
 tape:w'.tape=w.tape
 output:w'.output=w.output
 size:w.heap.size≤w'.heap.size
 block:∀ b,b<w.heap.size→¬ Q b→w'.heap[b]?=w.heap[b]?
theorem aQ.refl (Q:Nat→Prop)(w:World):aQ Q w w:=⟨rfl,rfl,rfl,Nat.le_refl _,fun _ _ _=>rfl⟩
theorem aQ.trans {Q:Nat→Prop}{a b c:World}(h:aQ Q a b)(k:aQ Q b c):aQ Q a c :=
 ⟨k.os.trans h.os,k.tape.trans h.tape,k.output.trans h.output,Nat.le_trans h.size k.size,fun i hi hq=>(k.block i (by have:=h.size;omega) hq).trans (h.block i hi hq)⟩
theorem aQ.mono {Q Q':Nat→Prop}{a b:World}(h:aQ Q a b)(hq:∀ i,i<a.heap.size→Q i→Q' i):aQ Q' a b :=
 ⟨h.os,h.tape,h.output,h.size,fun i hi hn=>h.block i hi (fun hx=>hn (hq i hi hx))⟩
theorem aQ.of_below {Q:Nat→Prop}{a b:World}(h:Below a.heap.size a b):aQ Q a b:=⟨h.os,h.tape,h.output,h.size,fun i hi _=>h.block i hi⟩
theorem aQ.WJ {a b:World}{S g:Nat}{Q:Nat→Prop}(h:Sb.Mv a b S g)(hS:Q S)(hg:Q g):aQ Q a b :=
 ⟨h.os,h.tape,h.output,h.size,fun i hi hn=>h.block i hi (fun e=>hn (e ▸ hS)) (fun e=>hn (e ▸ hg))⟩
theorem aQ.drew {Q:Nat→Prop}{a b:World}(h:aQ Q a b):aQ Q a b.drew:=⟨h.os,h.tape,h.output,h.size,h.block⟩
theorem aQ.drewN {Q:Nat→Prop}{a b:World}(h:aQ Q a b)(n:Nat):aQ Q a (b.drewN n):=⟨h.os,h.tape,h.output,h.size,h.block⟩
theorem aQ.set {Q:Nat→Prop}{a b:World}(h:aQ Q a b){p:Addr}(hp:Q p.block∨a.heap.size≤p.block)(u:Value):aQ Q a (b.setCell p u) :=
 ⟨h.os,h.tape,h.output,by simpa[World.setCell] using h.size,fun i hi hn=>(Below.heap_setCell _ _ _ _ (fun e=>by cases hp with | inl hp=>exact hn (e ▸ hp) | inr hp=>omega)).trans (h.block i hi hn)⟩
theorem aQ.alloc {Q:Nat→Prop}{a b:World}(h:aQ Q a b)(o:Obj):aQ Q a (b.alloc o) :=
 ⟨h.os,h.tape,h.output,by have:=h.size;simp;omega,fun i hi hn=>(Below.heap_alloc _ _ _ (by have:=h.size;omega)).trans (h.block i hi hn)⟩
theorem aQ.low {Q:Nat→Prop}{a b:World}{B:Nat}(h:aQ Q a b)(hB:B≤a.heap.size)(hq:∀ i,i<B→¬ Q i):Low B a b:=fun k hk=>h.block k (by omega) (hq k hk)
structure Cx where
 m:Md
 B:Nat
 au:Option Addr
 cu:Nat
 cv:Nat→Option Addr
 cc:Nat→Nat
structure kR (c:Cx) (w:World):Prop where
 few:c.m.units.length≤30
 units:∀ (i:Nat) u,c.m.units[i]?=some u→∃ b off al cl,c.au=some ⟨b,off,none⟩∧b<c.B∧gI c.B w u al (c.cv i) cl (c.cc i)∧w.cell? ⟨b,off+i * 6,none⟩=some (.int .i64 u.kind)∧w.cell? ⟨b,off+i * 6+1,none⟩=some (.int .i64 u.params)∧w.cell? ⟨b,off+i * 6+2,none⟩=some (.slice al u.locals.length cl)∧w.cell? ⟨b,off+i * 6+3,none⟩=some (.int .i64 u.result)∧w.cell? ⟨b,off+i * 6+4,none⟩=some (.int .i64 u.takes)∧w.cell? ⟨b,off+i * 6+5,none⟩=some (.slice (c.cv i) u.code.length (c.cc i))
theorem kR.low {c:Cx}{w w':World}(h:kR c w)(hk:Low c.B w w'):kR c w':=⟨h.few,fun i u hu=>by
 obtain⟨b,off,al,cl,e,hs,hun,c0,c1,c2,c3,c4,c5⟩:=h.units i u hu;have:=hk b hs;exact⟨b,off,al,cl,e,hs,hun.low hk,(aI this _).trans c0,(aI this _).trans c1,(aI this _).trans c2,(aI this _).trans c3,(aI this _).trans c4,(aI this _).trans c5⟩⟩
def De (c:Cx)(n:Nat):Value:=.slice (c.cv n) (unit c.m n).code.length (c.cc n)
def nY (c:Cx)(f:Wk):List Value:=[De c f.u,.int .i64 f.pc,.int .i64 f.base]
def iR (c:Cx)(l:List Wk):List Value:=l.flatMap (nY c)
theorem rH (c:Cx):∀ l,(iR c l).length=l.length * 3
 | []=>rfl
 | o :: l=>by have:=rH c l;simp only[iR,List.flatMap_cons,List.length_append,List.length_cons] at *;simp only[this,nY,List.length_cons,List.length_nil];omega
theorem zx (c:Cx)(l l':List Wk):iR c (l++l')=iR c l++iR c l':=by simp[iR]
def nZ (P:Nat→Nat):Option Nat→Value
 | none=>.pointer none
 | some j=>.pointer (some ⟨P j,0,none⟩)
abbrev kr (S:Nat) (vU:Value) (stands:Nat) (up:Value):Obj:=.cells #[.pointer (some ⟨S,0,none⟩),vU,.int .i64 stands,up] 210 (0,0)
structure aD (c:Cx) (L:av) (o i:Nat) (P:Nat→Nat) (w:World) (h:Th) (S g r:Nat) (vU:Value):Prop where
 blk:w.heap[P i]?=some (kr S vU h.stands (nZ P h.up))
 stack:Sb.SK w S g h.ws r 8 400
 row:w.ownsRow 0 257 3 vU h.fs.length (iR c h.fs.reverse)
 few:h.fs.length≤40
 l0:L (P i)=⟨1,o,i+1,0⟩
 l1:L S=⟨1,o,i+1,1⟩
 l2:L g=⟨1,o,i+1,2⟩
 l3:∀ U,vU.ownBlock=some U→L U=⟨1,o,i+1,3⟩
section
variable {c:Cx} {L:av} {o i:Nat} {P:Nat→Nat} {w:World} {h:Th} {S g r:Nat} {vU:Value}
theorem aD.cells (H:aD c L o i P w h S g r vU) :
  w.cell? ⟨P i,0,none⟩=some (.pointer (some ⟨S,0,none⟩))∧w.cell? ⟨P i,1,none⟩=some vU∧w.cell? ⟨P i,2,none⟩=some (.int .i64 h.stands)∧w.cell? ⟨P i,3,none⟩=some (nZ P h.up):=by
 have h:=H.blk;simp[World.cell?,h]
theorem aD.free (H:aD c L o i P w h S g r vU)(j:Nat):w.frozen? ⟨P i,j,none⟩=false:=by
 have h:=H.blk;simp[World.frozen?,h]
theorem aD.work (H:aD c L o i P w h S g r vU){f:Wk}{rs:List Wk}(hf:h.fs=f :: rs) :
  ∃ U cap cur,vU=.slice (some ⟨U,0,none⟩) (rs.length+1) cap∧w.heap[U]?=some (.cells cur 257 (0,0))∧rs.length+1≤cap∧cap≤maxLen∧cur.size=cap * 3∧cur.toList.take ((rs.length+1) * 3)=iR c (f :: rs).reverse∧L U=⟨1,o,i+1,3⟩:=by
 have hr:=H.row.2;have hl:=H.l3;rw[hf] at hr;rcases hr with⟨_,hv⟩ | ⟨g',cap',cur,hv,_,hh,h1,h2,h3,h4⟩
 ·simp at hv
 ·exact⟨g',cap',cur,hv,hh,h1,h2,h3,h4,hl g' (by rw[hv];rfl)⟩
theorem aD.lt (H:aD c L o i P w h S g r vU)(U:Nat)(hU:vU.ownBlock=some U):U<w.heap.size:=(H.row.lt U hU).2
theorem aD.inner (H:aD c L o i P w h S g r vU){f:Wk}{rs:List Wk}(hf:h.fs=f :: rs){U cap:Nat}(hU:vU=.slice (some ⟨U,0,none⟩) (rs.length+1) cap) :
  w.cell? ⟨U,rs.length * 3,none⟩=some (De c f.u)∧w.cell? ⟨U,rs.length * 3+1,none⟩=some (.int .i64 f.pc)∧w.cell? ⟨U,rs.length * 3+2,none⟩=some (.int .i64 f.base)∧∀ j,w.frozen? ⟨U,j,none⟩=false:=by
 obtain⟨U',cap',cur,hv,hh,h1,h2,h3,h4,_⟩:=H.work hf;rw[hU] at hv;simp at hv;obtain⟨rfl,rfl⟩:=hv;rw[List.reverse_cons,zx] at h4;have key:∀ j,j<3→cur[rs.length * 3+j]?=(nY c f)[j]?:=fun j hj=>by
  have:(cur.toList.take ((rs.length+1) * 3))[rs.length * 3+j]?=cur[rs.length * 3+j]?:=by rw[List.getElem?_take,if_pos (by omega)];simp
  rw[← this,h4,List.getElem?_append_right (by rw[rH];simp),rH];simp[iR]
 have k0:=key 0 (by omega);have k1:=key 1 (by omega);have k2:=key 2 (by omega);refine⟨by simp[World.cell?,hh];simpa[nY] using k0,by simp[World.cell?,hh];simpa[nY] using k1,by simp[World.cell?,hh];simpa[nY] using k2,fun j=>by simp[World.frozen?,hh]⟩
theorem aD.drewN (H:aD c L o i P w h S g r vU)(n:Nat):aD c L o i P (w.drewN n) h S g r vU:=⟨H.blk,H.stack,H.row,H.few,H.l0,H.l1,H.l2,H.l3⟩
end
theorem bA {w w':World}{B e size n:Nat}{v:Value}{xs:List Value}(h:w.ownsRow B e size v n xs)(hk:∀ k,v.ownBlock=some k→w'.heap[k]?=w.heap[k]?):w'.ownsRow B e size v n xs:=by
 refine⟨h.1,?_⟩;rcases h.2 with h2 | ⟨g',cap,cur,rfl,hB,hh,hr⟩
 ·exact .inl h2
 ·exact .inr ⟨g',cap,cur,rfl,hB,(hk g' rfl).trans hh,hr⟩
theorem aD.keep {c:Cx}{L L':av}{o i:Nat}{P P':Nat→Nat}{w w':World}{h:Th}{S g r:Nat}{vU:Value}(H:aD c L o i P w h S g r vU)(hL:Ext L L' w)(hP:P' i=P i)(hu:nZ P' h.up=nZ P h.up)(hk:∀ b,b<w.heap.size→(L b).cls=1∧(L b).idx=o∧(L b).th=i+1→w'.heap[b]?=w.heap[b]?):aD c L' o i P' w' h S g r vU:=by
 obtain⟨cs,hc,hr⟩:=H.stack.2.1;have z0:=lt_of_block H.blk;have z1:=lt_of_block H.stack.1;have z2:=lt_of_block hc;refine⟨?_,⟨(hk S z1 (by rw[H.l1];exact⟨rfl,rfl,rfl⟩)).trans H.stack.1,⟨cs,(hk g z2 (by rw[H.l2];exact⟨rfl,rfl,rfl⟩)).trans hc,hr⟩,H.stack.2.2⟩,bA H.row (fun b hb=>hk b (H.lt b hb) (by rw[H.l3 b hb];exact⟨rfl,rfl,rfl⟩)),H.few,?_,(hL S z1).trans H.l1,(hL g z2).trans H.l2,fun U hU=>(hL U (H.lt U hU)).trans (H.l3 U hU)⟩
 ·rw[hP,hu];exact (hk _ z0 (by rw[H.l0];exact⟨rfl,rfl,rfl⟩)).trans H.blk
 ·rw[hP];exact (hL _ z0).trans H.l0
theorem kT (c:Cx)(L:av)(o i:Nat)(P:Nat→Nat)(w:World)(h:Th)(S g r:Nat)(vU:Value)(H:Hid (aD c L o i P w h S g r vU))(f:Wk)(rs:List Wk)(hf:Hid (h.fs=f :: rs))(U cap:Nat)(hU:Hid (vU=.slice (some ⟨U,0,none⟩) (rs.length+1) cap)) :
  Calls Tryz.prog 144 #[.pointer (some ⟨P i,0,none⟩)] w fun e w'=>e=.returned (.pointer (some ⟨U,rs.length * 3,none⟩))∧∃ d,w'=w.drewN d:=by
 obtain⟨c0,c1,c2,c3⟩:=H.out.cells;have hlen:h.fs.length=rs.length+1:=by rw[hf.out];rfl
 have dx:=H.out.few;rw[hlen] at dx;rw[hU.out] at c1;have n0:(0:Int)≤(rs.length:Int):=by omega
 clear hlen;go_enter Tryz.func144,Tryz.ntmps144
 go_wp2
 go_quiet (fail)
 go_wp2
 go_ret
 exact⟨rfl,_,rfl⟩
end Go.Proofs.YtfcpglhpolpdcaaGreatDoor.Vw
