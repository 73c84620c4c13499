/- The walks of the printer's bracketed and calling,over what expr prints. -/
import Derived.Test.YtolfleeidpeomaaGreatDoorM24
import Derived.Test.YtolfleeidpeomaaGreatDoorM3
set_option maxRecDepth 100000
set_option maxHeartbeats 2000000
namespace Go.Proofs.YtolfleeidpeomaaGreatDoor
open Go.RowKit
theorem PR.grown {w w1:World}{P Bs:Nat}{ws:List ByteArray}{mv:Value}(h:PR w P Bs ws mv)(hg:w.grownBy w1 none):PR w1 P Bs ws mv:=by
 obtain ⟨v,hv,ho⟩:=h
 refine ⟨v,vD hv hg (by simp),ho.kept hg ?_⟩
 cases hb:v.ownBlock with
 | none=>exact .inl rfl
 | some k=>exact .inr (by simp)
theorem mM.fr {w w1:World}{P Bs M:Nat}(h:mM w M)(hf:Fr P Bs w w1)(hM:M<Bs)(IQ:M≠P):mM w1 M:=hf.block M _ IQ h (.inl hM)
theorem mM.grown {w w1:World}{M:Nat}(h:mM w M)(hg:w.grownBy w1 none):mM w1 M:=vD h hg (by simp)
theorem IU:Tryz.prog.globalNamed "internal/strconv.uint64pow10" = some 2:=by kernel_rfl
def jm (w:World)(M:Nat):Prop:=mM w M∧Lib.TabIs Tryz.prog w "internal/strconv.uint64pow10" .u64 Lib.pow10Tab
theorem IV {w w1:World}(h:Lib.TabIs Tryz.prog w "internal/strconv.uint64pow10" .u64 Lib.pow10Tab)(hb:∀ o,w.heap[2]?=some o→w1.heap[2]?=some o):Lib.TabIs Tryz.prog w1 "internal/strconv.uint64pow10" .u64 Lib.pow10Tab:=by
 unfold Lib.TabIs World.var? at *
 rw [IU] at *
 simp only [Option.bind_some] at *
 cases ho:w.heap[2]? with
 | none=>simp [ho] at h
 | some o=>rw [ho] at h;rw [hb o ho];exact h
theorem jm.fr {w w1:World}{P Bs M:Nat}(h:jm w M)(hf:Fr P Bs w w1)(hM:M<Bs)(IQ:M≠P)(hg:2<P)(hpb:P<Bs):jm w1 M :=
 ⟨h.1.fr hf hM IQ,IV h.2 (fun o ho=>hf.block 2 o (by omega) ho (.inl (by omega)))⟩
theorem jm.grown {w w1:World}{M:Nat}(h:jm w M)(hg:w.grownBy w1 none):jm w1 M:=⟨h.1.grown hg,IV h.2 (fun _ ho=>vD ho hg (by simp))⟩
structure Lay (B M P Bs:Nat):Prop where
 bp:B≤P
 pb:P<Bs
 mb:M<Bs
 mp:M≠P
 gp:2<P
def sM (B M P Bs d:Nat):Prop:=∀ (h:Nat) (x:Sy.Ex) (a:Option Addr) (c:Nat) (ws:List ByteArray) (w:World),Sy.dR d x→Hid (aJ B w h x a)→Hid (PR w P Bs ws (.map (some M)))→Hid (jm w M)→Bs≤w.heap.size→ws.length+(Sy.ai d x).length≤1000000 →
 Calls Tryz.prog 86 #[.pointer (some ⟨P,0,none⟩),dH x a c] w fun e w'=>bV P Bs (.map (some M)) ws (Sy.ai d x) w e w'
theorem Z7 {cur:Array Value}{t:TypeId}{fr:Nat × Nat}(h:t≠9):¬ Mh (.cells cur t fr):=by
 rintro ⟨c2,f2,he⟩
 simp only [Obj.cells.injEq] at he
 exact h he.2.1
theorem jH {P Bs:Nat}{w w1:World}{b:Nat}{cur:Array Value}{t:TypeId}{fr:Nat × Nat}(h:w.heap[b]?=some (.cells cur t fr))(ht:t≠9)(hb:b≠P)(hf:Fr P Bs w w1):w1.heap[b]?=some (.cells cur t fr) :=
 hf.block b _ hb h (.inr (Z7 ht))
theorem AP (B M P Bs d:Nat)(hL:Lay B M P Bs)(hE:Hid (sM B M P Bs d))(h:Nat)(x:Sy.Ex)(a:Option Addr)(c:Nat)(level:Int)(ws:List ByteArray)(w:World)(hok:Hid (Sy.dR d x))(hX:Hid (aJ B w h x a))(cz:Hid (PR w P Bs ws (.map (some M))))(hM:Hid (jm w M))(jW:Bs≤w.heap.size)
  (hn:ws.length+(Sy.bU (Sy.ai d) level x).length≤1000000) :
  Calls Tryz.prog 119 #[.pointer (some ⟨P,0,none⟩),dH x a c,.int .i64 level] w fun e w'=>bV P Bs (.map (some M)) ws (Sy.bU (Sy.ai d) level x) w e w':=by
 obtain ⟨hbp,hpb,hmb,hmp,iA⟩:=hL
 have aY:Hid (w.grownBy (w.alloc (jG x a c)) none):=World.grownBy_alloc _ _ _
 have DV:=Z6 P Bs M ws x.kind (w.alloc (jG x a c)) (cz.out.grown aY.out) (hM.out.grown aY.out).1
 obtain ⟨o,ho⟩:∃ o,o=Sy.bU (Sy.ai d) level x:=⟨_,rfl⟩
 rw [← ho] at hn ⊢
 have HO:Hid (o=Sy.bU (Sy.ai d) level x):=ho
 clear ho
 by_cases hle:level≤Sy.iT x.kind
 ·have aP:Hid (o=Sy.ai d x):=by have:=HO.out;unfold Sy.bU at this;rw [if_pos hle] at this;exact this
  have hnx:ws.length+(Sy.ai d x).length≤1000000:=by rw [← aP.out];exact hn
  go_enter Tryz.func119,Tryz.ntmps119
  go_wp2_with fail
  refine DV.mono ?_
  rintro e w1 ⟨rfl,hb⟩
  have ax:Hid (w.grownBy w1 none):=aB aY.out (AO hb)
  obtain ⟨b0,b1,b2,b3⟩:=pG (je (AO hb) (by simp))
  have hs1:Bs≤w1.heap.size:=by have:=ax.out.size;omega
  clear hb DV
  go_wp2_with fail
  refine (hE.out h x a c ws _ hok.out (hX.out.same (dK ax.out (by simp) (by omega))) (cz.out.grown ax.out) (hM.out.grown ax.out) hs1 hnx).mono ?_
  rintro e w2 hp
  have HP:Hid (bV P Bs (.map (some M)) ws (Sy.ai d x) w e w2):=⟨hp.1,hp.2.1,(Fr.below ⟨ax.out.os,ax.out.tape,ax.out.output,ax.out.size,fun k hk=>ax.out.block k hk (by simp)⟩).trans hp.2.2⟩
  obtain rfl:=hp.1
  clear hp b0 b1 b2 b3
  go_wp2
  refine bodyPost_ret (results_none rfl _ _ _) rfl ?_
  rw [aP.out]
  exact HP.out
 ·have aP:Hid (o=[⟨#[40]⟩]++Sy.ai d x++[⟨#[41]⟩]):=by have:=HO.out;unfold Sy.bU at this;rw [if_neg hle] at this;exact this
  have hnx:ws.length+((Sy.ai d x).length+2)≤1000000:=by rw [aP.out] at hn;simp at hn;omega
  clear hn
  have aeL:Sy.iT x.kind<level:=by omega
  clear hle
  go_enter Tryz.func119,Tryz.ntmps119
  go_wp2_with fail
  refine DV.mono ?_
  rintro e w1 ⟨rfl,hb⟩
  have ax:Hid (w.grownBy w1 none):=aB aY.out (AO hb)
  have jT:Hid (w1.heap[w.heap.size]?=some (jG x a c)):=je (AO hb) (by simp)
  obtain ⟨b0,b1,b2,b3⟩:=pG jT.out
  have hs1:Bs≤w1.heap.size:=by have:=ax.out.size;omega
  have fK:Hid (Fr P Bs w w1):=Fr.below ⟨ax.out.os,ax.out.tape,ax.out.output,ax.out.size,fun k hk=>ax.out.block k hk (by simp)⟩
  clear hb DV
  go_wp2_with fail
  refine (jB P Bs ws [⟨#[40]⟩] _ 1 w1.heap.size w1 rfl (cz.out.grown ax.out) hpb hs1 (by show ws.length+1≤_;omega)).mono ?_
  rintro e w2 hp
  have fJ:Hid (PR w2 P Bs (ws++[⟨#[40]⟩]) (.map (some M))):=hp.2.1
  have bW:Hid (Fr P Bs w w2):=fK.out.trans hp.2.2
  have AQ:Hid (w2.heap[w.heap.size]?=some (jG x a c)):=jH jT.out (by decide) (by omega) hp.2.2
  obtain rfl:=hp.1
  have hs2:Bs≤w2.heap.size:=by have:=bW.out.size;omega
  clear hp b0 b1 b2 b3
  obtain ⟨b0,b1,b2,b3⟩:=pG AQ.out
  go_wp2_with fail
  refine (hE.out h x a c (ws++[⟨#[40]⟩]) _ hok.out (hX.out.same (bW.out.same hbp hpb (by omega))) fJ (hM.out.fr bW.out hmb hmp iA hpb) hs2 (by simp;omega)).mono ?_
  rintro e w3 hp
  have j3:Hid (PR w3 P Bs (ws++[⟨#[40]⟩]++Sy.ai d x) (.map (some M))):=hp.2.1
  have fM:Hid (Fr P Bs w w3):=bW.out.trans hp.2.2
  have hs3:Bs≤w3.heap.size:=by have:=fM.out.size;omega
  obtain rfl:=hp.1
  clear hp b0 b1 b2 b3
  go_wp2_with fail
  refine (jB P Bs (ws++[⟨#[40]⟩]++Sy.ai d x) [⟨#[41]⟩] _ 1 w3.heap.size w3 rfl j3 hpb hs3 (by simp;omega)).mono ?_
  rintro e w4 hp
  have nY:Hid (bV P Bs (.map (some M)) ws o w e w4):=⟨hp.1,by rw [aP.out];have:=hp.2.1;simpa using this,fM.out.trans hp.2.2⟩
  obtain rfl:=hp.1
  clear hp
  go_wp2
  go_end0
  exact nY.out
def wK (B:Nat)(w:World)(h:Nat)(kids:List Sy.Ex)(a:Option Addr):Prop :=
 kids.length≤maxLen∧∀ i k,kids[i]?=some k→∃ b off a' c',a=some ⟨b,off,none⟩∧b<B ∧
   w.cell? ⟨b,off+i * 4,none⟩=some (.int .i64 k.kind)∧w.cell? ⟨b,off+i * 4+1,none⟩=some (.int .i64 k.n)∧w.cell? ⟨b,off+i * 4+2,none⟩=some (.string k.name) ∧
   w.cell? ⟨b,off+i * 4+3,none⟩=some (.slice a' k.kids.length c')∧aJ B w h k a'
theorem aJ.uG {B:Nat}{w:World}{h:Nat}{x:Sy.Ex}{a:Option Addr}(hx:aJ B w (h+1) x a):wK B w h x.kids a:=hx.2
theorem wK.same {B:Nat}{w w':World}(hs:Go.Proofs.YtolfleeidpeomaaGreatDoor.Same B w w'){h:Nat}{kids:List Sy.Ex}{a:Option Addr}(hk:wK B w h kids a):wK B w' h kids a :=
 ⟨hk.1,fun i k hi=>by
  obtain ⟨b,off,a',c',ha,hb,c0,c1,c2,c3,hin⟩:=hk.2 i k hi
  exact ⟨b,off,a',c',ha,hb,(hs _ _ hb).trans c0,(hs _ _ hb).trans c1,(hs _ _ hb).trans c2,(hs _ _ hb).trans c3,hin.same hs⟩⟩
theorem PT {α:Type}{f:α→List ByteArray}{l:List α}{k:Nat}{x:α}(h:l[k]?=some x):Sy.bZ f k (l.drop k)=(if 0<k then [⟨#[44]⟩] else [])++f x++Sy.bZ f (k+1) (l.drop (k+1)):=by
 obtain ⟨hk,rfl⟩:=List.getElem?_eq_some_iff.1 h
 rw [List.drop_eq_getElem_cons hk]
 rfl
theorem AR (B M P Bs d:Nat)(hL:Lay B M P Bs)(hE:Hid (sM B M P Bs d))(h:Nat)(kids:List Sy.Ex)(a:Option Addr)(c:Nat)(xs:List ByteArray)(ad:Addr)(c2:Nat)(ws:List ByteArray)(w:World)
  (hok:Hid (∀ k ∈ kids,Sy.dR d k)) (hX:Hid (wK B w h kids a)) (cz:Hid (PR w P Bs ws (.map (some M)))) (hM:Hid (jm w M)) (jW:Bs≤w.heap.size)
  (hx:Hid (∀ j x,xs[j]?=some x→w.cell? (ad.add j)=some (.string x))) (hn:ws.length+(Sy.eO (Sy.ai d) xs kids).length≤1000000) :
  Calls Tryz.prog 120 #[.pointer (some ⟨P,0,none⟩),.slice a kids.length c,.slice (some ad) xs.length c2] w fun e w'=>bV P Bs (.map (some M)) ws (Sy.eO (Sy.ai d) xs kids) w e w':=by
 obtain ⟨hbp,hpb,hmb,hmp,iA⟩:=hL
 have hlen:=hX.out.1
 unfold maxLen at hlen
 obtain ⟨o,ho⟩:∃ o,o=Sy.eO (Sy.ai d) xs kids:=⟨_,rfl⟩
 have hn':ws.length+(xs.length+((Sy.bZ (Sy.ai d) 0 kids).length+2))≤1000000:=by unfold Sy.eO at hn;simp at hn;omega
 rw [← ho]
 have HO:Hid (o=xs++[⟨#[40]⟩]++Sy.bZ (Sy.ai d) 0 kids++[⟨#[41]⟩]):=ho
 clear ho hn
 have HT:Hid (∃ T,T=Sy.bZ (Sy.ai d) 0 kids):=⟨_,rfl⟩
 go_enter Tryz.func120,Tryz.ntmps120
 go_wp2_with fail
 refine (CG P Bs ws xs _ ad c2 w cz hpb jW hx (by omega)).mono ?_
 rintro e w1 ⟨rfl,hp1,hf1⟩
 have eG:Hid (PR w1 P Bs (ws++xs) (.map (some M))):=hp1
 have fK:Hid (Fr P Bs w w1):=hf1
 have hs1:Bs≤w1.heap.size:=by have:=hf1.size;omega
 clear hp1 hf1
 go_wp2_with fail
 refine (jB P Bs (ws++xs) [⟨#[40]⟩] _ 1 w1.heap.size w1 rfl eG hpb hs1 (by simp;omega)).mono ?_
 rintro e w2 ⟨rfl,hp2,hf2⟩
 have fJ:Hid (PR w2 P Bs (ws++xs++[⟨#[40]⟩]++[]) (.map (some M))):=by rw [List.append_nil];exact hp2
 have bW:Hid (Fr P Bs w w2):=fK.out.trans hf2
 clear hp2 hf2
 go_wp2
 go_loopw [20] (fun i wr=>∃ (k:Nat) (done:List ByteArray),k≤kids.length∧i=.int .i64 k∧Hid (PR wr P Bs (ws++xs++[⟨#[40]⟩]++done) (.map (some M)))∧Hid (Fr P Bs w wr)∧Hid (done++Sy.bZ (Sy.ai d) k (kids.drop k)=Sy.bZ (Sy.ai d) 0 kids)) (fun i _=>kids.length - (intOf i).toNat)
 case atStart=>exact ⟨0,[],Nat.zero_le _,rfl,fJ,bW,by rw [List.drop_zero];rfl⟩
 case round =>
  obtain ⟨k,done,hk,rfl,kP,iK,mq⟩:=hrel
  have AU:Bs≤wr.heap.size:=by have:=iK.out.size;omega
  by_cases hlt:k<kids.length
  ·obtain ⟨x,hxk⟩:∃ x,kids[k]?=some x:=⟨_,List.getElem?_eq_getElem hlt⟩
   have PU:=hok.out x (List.mem_of_getElem? hxk)
   have IW:Hid (Sy.dR d x):=PU
   obtain ⟨b,off,a',c',rfl,hb,q0,q1,q2,q3,hin⟩:=(hX.out.same (iK.out.same hbp hpb (by omega))).2 k x hxk
   have gJ:Hid (aJ B wr h x a'):=hin
   have hD2:=mq.out
   rw [PT hxk] at hD2
   obtain ⟨cm,hcm⟩:∃ cm,cm=(if 0<k then [(⟨#[44]⟩:ByteArray)] else []):=⟨_,rfl⟩
   rw [← hcm] at hD2
   have hcl:cm.length≤1:=by rw [hcm];split <;> simp
   have wM:=congrArg List.length hD2
   simp only [List.length_append] at wM
   have HD2:Hid (done++(cm++Sy.ai d x++Sy.bZ (Sy.ai d) (k+1) (kids.drop (k+1)))=Sy.bZ (Sy.ai d) 0 kids):=hD2
   have HCm:Hid (cm=(if 0<k then [(⟨#[44]⟩:ByteArray)] else [])):=hcm
   have wN:=PS P Bs (ws++xs++[(⟨#[40]⟩:ByteArray)]++done) (.map (some M)) k (wr.alloc (jG x a' c')) (kP.out.alloc _) hpb (by simp;omega) (by simp only [List.length_append,List.length_cons,List.length_nil];omega)
   rw [← hcm] at wN
   obtain ⟨bx1,IX⟩:∃ bx1:Nat,bx1=(Sy.ai d x).length:=⟨_,rfl⟩
   rw [← IX] at wM
   have Cn:Hid (bx1=(Sy.ai d x).length):=IX
   clear PU hin hD2 hcm IX
   have aeN:Hid (kids[k]?=some x):=hxk
   clear hxk
   go_wp2_with fail
   refine wN.mono ?_
   rintro e w3 hp
   have j3:Hid (PR w3 P Bs (ws++xs++[⟨#[40]⟩]++done++cm) (.map (some M))):=hp.2.1
   have PV:Hid (Fr P Bs wr w3):=(Fr.alloc P Bs wr _).trans hp.2.2
   have fM:Hid (Fr P Bs w w3):=iK.out.trans PV.out
   have jT:Hid (w3.heap[wr.heap.size]?=some (jG x a' c')):=jH (heap_alloc_new wr _) (by decide) (by have:=kP.out.lt;omega) hp.2.2
   have hs3:Bs≤w3.heap.size:=by have:=fM.out.size;omega
   obtain rfl:=hp.1
   obtain ⟨b0,b1,b2,b3⟩:=pG jT.out
   clear hp q0 q1 q2 q3 wN
   go_wp2_with fail
   refine (hE.out h x a' c' (ws++xs++[⟨#[40]⟩]++done++cm) _ IW.out (gJ.out.same (PV.out.same hbp hpb (by omega))) j3 (hM.out.fr fM.out hmb hmp iA hpb) hs3 (by simp only [List.length_append,List.length_cons,List.length_nil];have:=Cn.out;omega)).mono ?_
   rintro e w4 hp
   have nY:Hid (PR w4 P Bs (ws++xs++[⟨#[40]⟩]++(done++cm++Sy.ai d x)) (.map (some M))):=by have:=hp.2.1;unfold Hid;simpa using this
   have lq:Hid (Fr P Bs w w4):=fM.out.trans hp.2.2
   have HD4:Hid (done++cm++Sy.ai d x++Sy.bZ (Sy.ai d) (k+1) (kids.drop (k+1))=Sy.bZ (Sy.ai d) 0 kids):=by rw [← HD2.out];unfold Hid;simp only [List.append_assoc]
   obtain rfl:=hp.1
   clear hp b0 b1 b2 b3
   go_wp2
   go_roundw
   case rel=>exact ⟨k+1,done++cm++Sy.ai d x,by omega,by go_num,nY,lq,HD4⟩
   case measure=>simp [intOf];omega
  ·have HDn:Hid (done=Sy.bZ (Sy.ai d) 0 kids):=by
    have:=mq.out
    rw [List.drop_of_length_le (by omega)] at this
    unfold Hid;simpa [Sy.bZ] using this
   have hld:=congrArg List.length HDn.out
   go_wp2_with fail
   refine (jB P Bs (ws++xs++[⟨#[40]⟩]++done) [⟨#[41]⟩] _ 1 wr.heap.size wr rfl kP hpb AU (by simp only [List.length_append,List.length_cons,List.length_nil];omega)).mono ?_
   rintro e w4 hp
   have nY:Hid (bV P Bs (.map (some M)) ws o w e w4):=⟨hp.1,by rw [HO.out,← HDn.out];have:=hp.2.1;simpa using this,iK.out.trans hp.2.2⟩
   obtain rfl:=hp.1
   clear hp
   go_wp2
   go_end0
   exact nY.out
abbrev jI (kk:Int) (sg:ByteArray) (L:Int):Obj:=.cells #[.int .i64 kk,.string sg,.int .i64 L] 75 (0,0)
theorem IY (B:Nat)(w:World):Go.Proofs.YtolfleeidpeomaaGreatDoor.Same B w w.drew:=fun _ _ _=>rfl
def yC (P Bs:Nat)(mv:Value)(ws:List ByteArray)(o:Obj)(w w1:World):Prop:=PR w1 P Bs ws mv∧Fr P Bs w w1∧w1.heap[w.heap.size]?=some o
theorem Z8 (B M P Bs d:Nat)(hL:Lay B M P Bs)(hE:Hid (sM B M P Bs d))(h:Nat)(x0 x1:Sy.Ex)(kids:List Sy.Ex)(a:Option Addr)(c:Nat)(kk:Int)(sg:ByteArray)(L:Int)(ws:List ByteArray)(w:World)
  (hk0:Hid (kids[0]?=some x0)) (hk1:Hid (kids[1]?=some x1)) (hl2:2≤kids.length) (hL0:0<L) (hL5:L≤5)
  (hok0:Hid (Sy.dR d x0)) (hok1:Hid (Sy.dR d x1)) (hX:Hid (wK B w h kids a)) (cz:Hid (PR w P Bs ws (.map (some M)))) (hM:Hid (jm w M)) (jW:Bs≤w.heap.size) (o:List ByteArray)
  (ho:Hid (o=Sy.bU (Sy.ai d) (if L=3 then 4 else L) x0++[sg]++Sy.bU (Sy.ai d) (L+1) x1)) (hn:ws.length+o.length≤1000000) :
  Calls Tryz.prog 116 #[.pointer (some ⟨P,0,none⟩),.agg #[.int .i64 kk,.string sg,.int .i64 L],.slice a kids.length c] w fun e w'=>bV P Bs (.map (some M)) ws o w e w':=by
 have fC:=hL
 obtain ⟨hbp,hpb,hmb,hmp,iA⟩:=hL
 have hlen:=hX.out.1
 unfold maxLen at hlen
 have aY:Hid (w.grownBy (w.alloc (jI kk sg L)) none):=World.grownBy_alloc _ _ _
 have HX0:Hid (wK B (w.alloc (jI kk sg L)) h kids a):=hX.out.same (dK aY.out (by simp) (by omega))
 obtain ⟨b,off,a0,c0',rfl,hb,q0,q1,q2,q3,uH⟩:=HX0.out.2 0 x0 hk0.out
 simp only [Nat.zero_mul,Nat.add_zero] at q0 q1 q2 q3
 obtain ⟨left,hleft⟩:∃ left:Int,left=if L=3 then 4 else L:=⟨_,rfl⟩
 have DW:Hid (left=if L=3 then 4 else L):=hleft
 obtain ⟨B0,hB0⟩:∃ B0,B0=Sy.bU (Sy.ai d) left x0:=⟨_,rfl⟩
 obtain ⟨B1,hB1⟩:∃ B1,B1=Sy.bU (Sy.ai d) (L+1) x1:=⟨_,rfl⟩
 have HO:Hid (o=B0++[sg]++B1):=by rw [ho.out,← hleft,← hB0,← hB1];rfl
 have hno:ws.length+(B0.length+(B1.length+1))≤1000000:=by rw [HO.out] at hn;simp at hn;omega
 have HB0:Hid (B0=Sy.bU (Sy.ai d) left x0):=hB0
 have HB1:Hid (B1=Sy.bU (Sy.ai d) (L+1) x1):=hB1
 have AV:Hid (aJ B (w.alloc (jI kk sg L)) h x0 a0):=uH
 have hsz0:Bs≤(w.alloc (jI kk sg L)).heap.size:=by simp;omega
 have wO:=AP B M P Bs d fC hE h x0 a0 c0' left ws (w.alloc (jI kk sg L)) hok0 AV (cz.out.grown aY.out) (hM.out.grown aY.out) hsz0 (by rw [← hB0];omega)
 rw [← hB0] at wO
 clear uH hB0 hB1 hn hleft
 by_cases h3:L=3
 ·have hl4:left=L+1:=by rw [DW.out,if_pos h3];omega
  have e3:(L==3)=true:=by simp [h3]
  rw [hl4] at wO HB0
  clear h3 DW hl4
  go_enter Tryz.func116,Tryz.ntmps116
  go_wp2_with fail
  refine wO.mono ?_
  rintro e w1 hp
  have eG:Hid (PR w1 P Bs (ws++B0) (.map (some M))):=hp.2.1
  have fK:Hid (Fr P Bs w w1):=(Fr.alloc P Bs w _).trans hp.2.2
  have jT:Hid (w1.heap[w.heap.size]?=some (jI kk sg L)):=jH (heap_alloc_new w _) (by decide) (by have:=cz.out.lt;omega) hp.2.2
  have hs1:Bs≤w1.heap.size:=by have:=fK.out.size;omega
  obtain rfl:=hp.1
  obtain ⟨t0,t1,t2⟩:=gB jT.out
  clear hp q0 q1 q2 q3 wO
  go_upto_region 5 with fail
  go_cut [] (fun wx=>yC P Bs (.map (some M)) (ws++B0++[sg]) (jI kk sg L) w wx)
  case first =>
   go_region_with (go_at_call 26;refine (oO P Bs (ws++B0) [sg] _ 1 w1.heap.size w1 rfl eG hpb hs1 (by simp;omega)).mono ?_;rintro e w2 hp;have HP:Hid (yC P Bs (.map (some M)) (ws++B0++[sg]) (jI kk sg L) w w2):=⟨hp.2.1,fK.out.trans hp.2.2,jH jT.out (by decide) (by have:=cz.out.lt;omega) hp.2.2⟩;obtain rfl:=hp.1;clear hp)
   all_goals
    go_wp2_with fail
    go_meet
    exact Hid.out (by assumption)
  case rest =>
   have HC:Hid (yC P Bs (.map (some M)) (ws++B0++[sg]) (jI kk sg L) w wc):=hcut
   clear hcut t0 t1 t2
   obtain ⟨t0,t1,t2⟩:=gB HC.out.2.2
   have hs2:Bs≤wc.heap.size:=by have:=HC.out.2.1.size;omega
   obtain ⟨b',off',a1,c1',hab,hb',q0,q1,q2,q3,hin1⟩:=(hX.out.same (HC.out.2.1.same hbp hpb (by omega))).2 1 x1 hk1.out
   simp only [Option.some.injEq,Addr.mk.injEq,and_true] at hab
   obtain ⟨rfl,rfl⟩:=hab
   simp only [Nat.one_mul,Nat.add_assoc,Nat.reduceAdd] at q0 q1 q2 q3
   have IZ:Hid (aJ B wc h x1 a1):=hin1
   have AX:=AP B M P Bs d fC hE h x1 a1 c1' (L+1) (ws++B0++[sg]) wc.drew hok1 (IZ.out.same (IY B wc)) HC.out.1 (show jm wc M from hM.out.fr HC.out.2.1 hmb hmp iA hpb) hs2 (by rw [← HB1.out];simp;omega)
   rw [← HB1.out] at AX
   have HFin:Hid (∀ e w2,bV P Bs (.map (some M)) (ws++B0++[sg]) B1 wc.drew e w2→bV P Bs (.map (some M)) ws o w e w2):=fun e w2 hp=>⟨hp.1,by rw [HO.out];have:=hp.2.1;simpa using this,HC.out.2.1.drew.trans hp.2.2⟩
   clear hin1
   have wL:IntKind.i64.wrap (L+1)=L+1:=IntWalk.i64_in _ ⟨by omega,by omega⟩
   go_upto_region 6 with fail
   go_region_with (go_at_call 119;(try rw [wL]);refine AX.mono ?_;rintro e w2 hp;have HP:Hid (bV P Bs (.map (some M)) ws o w e w2):=HFin.out e w2 hp;obtain rfl:=hp.1;clear hp)
   all_goals
    go_wp2
    go_end0
    exact Hid.out (by assumption)
 ·have hl4:left=L:=by rw [DW.out,if_neg h3]
  have e3:(L==3)=false:=by simp [h3]
  rw [hl4] at wO HB0
  clear h3 DW hl4
  go_enter Tryz.func116,Tryz.ntmps116
  go_wp2_with fail
  refine wO.mono ?_
  rintro e w1 hp
  have eG:Hid (PR w1 P Bs (ws++B0) (.map (some M))):=hp.2.1
  have fK:Hid (Fr P Bs w w1):=(Fr.alloc P Bs w _).trans hp.2.2
  have jT:Hid (w1.heap[w.heap.size]?=some (jI kk sg L)):=jH (heap_alloc_new w _) (by decide) (by have:=cz.out.lt;omega) hp.2.2
  have hs1:Bs≤w1.heap.size:=by have:=fK.out.size;omega
  obtain rfl:=hp.1
  obtain ⟨t0,t1,t2⟩:=gB jT.out
  clear hp q0 q1 q2 q3 wO
  go_upto_region 5 with fail
  go_cut [] (fun wx=>yC P Bs (.map (some M)) (ws++B0++[sg]) (jI kk sg L) w wx)
  case first =>
   go_region_with (go_at_call 26;refine (oO P Bs (ws++B0) [sg] _ 1 w1.heap.size w1 rfl eG hpb hs1 (by simp;omega)).mono ?_;rintro e w2 hp;have HP:Hid (yC P Bs (.map (some M)) (ws++B0++[sg]) (jI kk sg L) w w2):=⟨hp.2.1,fK.out.trans hp.2.2,jH jT.out (by decide) (by have:=cz.out.lt;omega) hp.2.2⟩;obtain rfl:=hp.1;clear hp)
   all_goals
    go_wp2_with fail
    go_meet
    exact Hid.out (by assumption)
  case rest =>
   have HC:Hid (yC P Bs (.map (some M)) (ws++B0++[sg]) (jI kk sg L) w wc):=hcut
   clear hcut t0 t1 t2
   obtain ⟨t0,t1,t2⟩:=gB HC.out.2.2
   have hs2:Bs≤wc.heap.size:=by have:=HC.out.2.1.size;omega
   obtain ⟨b',off',a1,c1',hab,hb',q0,q1,q2,q3,hin1⟩:=(hX.out.same (HC.out.2.1.same hbp hpb (by omega))).2 1 x1 hk1.out
   simp only [Option.some.injEq,Addr.mk.injEq,and_true] at hab
   obtain ⟨rfl,rfl⟩:=hab
   simp only [Nat.one_mul,Nat.add_assoc,Nat.reduceAdd] at q0 q1 q2 q3
   have IZ:Hid (aJ B wc h x1 a1):=hin1
   have AX:=AP B M P Bs d fC hE h x1 a1 c1' (L+1) (ws++B0++[sg]) wc.drew hok1 (IZ.out.same (IY B wc)) HC.out.1 (show jm wc M from hM.out.fr HC.out.2.1 hmb hmp iA hpb) hs2 (by rw [← HB1.out];simp;omega)
   rw [← HB1.out] at AX
   have HFin:Hid (∀ e w2,bV P Bs (.map (some M)) (ws++B0++[sg]) B1 wc.drew e w2→bV P Bs (.map (some M)) ws o w e w2):=fun e w2 hp=>⟨hp.1,by rw [HO.out];have:=hp.2.1;simpa using this,HC.out.2.1.drew.trans hp.2.2⟩
   clear hin1
   have wL:IntKind.i64.wrap (L+1)=L+1:=IntWalk.i64_in _ ⟨by omega,by omega⟩
   go_upto_region 6 with fail
   go_region_with (go_at_call 119;(try rw [wL]);refine AX.mono ?_;rintro e w2 hp;have HP:Hid (bV P Bs (.map (some M)) ws o w e w2):=HFin.out e w2 hp;obtain rfl:=hp.1;clear hp)
   all_goals
    go_wp2
    go_end0
    exact Hid.out (by assumption)
def I1 (B M P Bs h:Nat)(ws:List ByteArray)(x:Sy.Ex)(a:Option Addr)(c:Nat)(kk:Int)(sg:ByteArray)(L:Int)(w w1:World):Prop :=
 PR w1 P Bs ws (.map (some M))∧Fr P Bs w w1∧w1.heap[w.heap.size]?=some (jG x a c)∧w1.heap[w.heap.size+1]?=some (jI kk sg L)∧jm w1 M∧aJ B w1 (h+1) x a
theorem Z9 {B M P Bs h:Nat}{ws:List ByteArray}{x:Sy.Ex}{a:Option Addr}{c:Nat}(kk:Int)(sg:ByteArray)(L:Int){w:World}(hX:aJ B w (h+1) x a)(cz:PR w P Bs ws (.map (some M)))(hM:jm w M)(hB:B≤w.heap.size) :
  I1 B M P Bs h ws x a c kk sg L w ((w.alloc (jG x a c)).alloc (jI kk sg L)).drew:=by
 have hg:w.grownBy ((w.alloc (jG x a c)).alloc (jI kk sg L)) none:=aB (World.grownBy_alloc _ _ _) (World.grownBy_alloc _ _ _)
 refine ⟨(cz.grown hg).drew,(Fr.below ⟨hg.os,hg.tape,hg.output,hg.size,fun k hk=>hg.block k hk (by simp)⟩).drew,?_,?_,(show jm ((w.alloc (jG x a c)).alloc (jI kk sg L)) M from hM.grown hg),(hX.same (dK hg (by simp) hB)).same (IY B _)⟩
 ·show ((w.alloc (jG x a c)).alloc (jI kk sg L)).heap[w.heap.size]?=_
  rw [Below.heap_alloc _ _ _ (by simp)];exact heap_alloc_new w _
 ·show ((w.alloc (jG x a c)).alloc (jI kk sg L)).heap[w.heap.size+1]?=_
  have:=heap_alloc_new (w.alloc (jG x a c)) (jI kk sg L)
  simpa using this
theorem aaa {k:Int}(h:¬ 0<Sy.aW k):Sy.aW k=0:=by
 unfold Sy.aW at h ⊢
 split at h
 ·omega
 ·split at h
  ·omega
  ·split at h
   ·omega
   ·split at h
    ·omega
    ·split at h
     ·omega
     ·simp only [*,if_false]
theorem aab {k:Int}(h1:1≤k)(h2:k≤24)(h:Sy.aW k=0):k=1∨k=2∨k=3∨k=4∨k=5∨k=19∨k=20∨k=21∨k=22∨k=23∨k=24:=by
 unfold Sy.aW at h
 split at h
 ·omega
 ·split at h
  ·omega
  ·split at h
   ·omega
   ·split at h
    ·omega
    ·split at h
     ·omega
     ·omega
theorem yD (xs:List ByteArray)(w:World):∀ j x,xs[j]?=some x→(w.alloc (.cells (xs.map Value.string).toArray 9)).cell? ((⟨w.heap.size,0,none⟩:Addr).add j)=some (.string x):=by
 intro j x hx
 have:(⟨w.heap.size,0,none⟩:Addr).add j=⟨w.heap.size,j,none⟩:=by unfold Addr.add;split <;> simp_all
 rw [this,World.cell?_alloc_mark]
 simp [hx]
theorem exT_1 {d:Nat}{x:Sy.Ex}(hk:x.kind=1):Sy.ai (d+1) x=[Sy.iU x.n]:=by
 conv=>lhs;unfold Sy.ai
 rw [if_neg (show ¬ 0<Sy.aW x.kind by rw [hk];decide),if_pos hk]
theorem exT_2 {d:Nat}{x:Sy.Ex}(hk:x.kind=2):Sy.ai (d+1) x=[Sy.lN x.n]:=by
 conv=>lhs;unfold Sy.ai
 rw [if_neg (show ¬ 0<Sy.aW x.kind by rw [hk];decide),if_neg (show ¬ x.kind=1 by omega),if_pos hk]
theorem exT_3 {d:Nat}{x:Sy.Ex}(hk:x.kind=3):Sy.ai (d+1) x=[x.name]:=by
 conv=>lhs;unfold Sy.ai
 rw [if_neg (show ¬ 0<Sy.aW x.kind by rw [hk];decide),if_neg (show ¬ x.kind=1 by omega),if_neg (show ¬ x.kind=2 by omega),if_pos hk]
theorem exT_4 {d:Nat}{x:Sy.Ex}(hk:x.kind=4):Sy.ai (d+1) x=[⟨#[45]⟩]++Sy.bU (Sy.ai d) 6 (x.kids.headD ⟨0,0,⟨#[]⟩,[]⟩):=by
 conv=>lhs;unfold Sy.ai
 rw [if_neg (show ¬ 0<Sy.aW x.kind by rw [hk];decide),if_neg (show ¬ x.kind=1 by omega),if_neg (show ¬ x.kind=2 by omega),if_neg (show ¬ x.kind=3 by omega),if_pos hk]
theorem exT_5 {d:Nat}{x:Sy.Ex}(hk:x.kind=5):Sy.ai (d+1) x=[⟨#[110,111,116]⟩]++Sy.bU (Sy.ai d) 6 (x.kids.headD ⟨0,0,⟨#[]⟩,[]⟩):=by
 conv=>lhs;unfold Sy.ai
 rw [if_neg (show ¬ 0<Sy.aW x.kind by rw [hk];decide),if_neg (show ¬ x.kind=1 by omega),if_neg (show ¬ x.kind=2 by omega),if_neg (show ¬ x.kind=3 by omega),if_neg (show ¬ x.kind=4 by omega),if_pos hk]
theorem exT_19 {d:Nat}{x:Sy.Ex}(hk:x.kind=19):Sy.ai (d+1) x=Sy.eO (Sy.ai d) [x.name] x.kids:=by
 conv=>lhs;unfold Sy.ai
 rw [if_neg (show ¬ 0<Sy.aW x.kind by rw [hk];decide),if_neg (show ¬ x.kind=1 by omega),if_neg (show ¬ x.kind=2 by omega),if_neg (show ¬ x.kind=3 by omega),if_neg (show ¬ x.kind=4 by omega),if_neg (show ¬ x.kind=5 by omega),if_pos hk]
theorem exT_20 {d:Nat}{x:Sy.Ex}(hk:x.kind=20):Sy.ai (d+1) x=[⟨#[114,101,99,118]⟩,⟨#[40]⟩,x.name,⟨#[41]⟩]:=by
 conv=>lhs;unfold Sy.ai
 rw [if_neg (show ¬ 0<Sy.aW x.kind by rw [hk];decide),if_neg (show ¬ x.kind=1 by omega),if_neg (show ¬ x.kind=2 by omega),if_neg (show ¬ x.kind=3 by omega),if_neg (show ¬ x.kind=4 by omega),if_neg (show ¬ x.kind=5 by omega),if_neg (show ¬ x.kind=19 by omega),if_pos hk]
theorem exT_21 {d:Nat}{x:Sy.Ex}(hk:x.kind=21):Sy.ai (d+1) x=Sy.eO (Sy.ai d) [⟨#[121,105,101,108,100]⟩] x.kids:=by
 conv=>lhs;unfold Sy.ai
 rw [if_neg (show ¬ 0<Sy.aW x.kind by rw [hk];decide),if_neg (show ¬ x.kind=1 by omega),if_neg (show ¬ x.kind=2 by omega),if_neg (show ¬ x.kind=3 by omega),if_neg (show ¬ x.kind=4 by omega),if_neg (show ¬ x.kind=5 by omega),if_neg (show ¬ x.kind=19 by omega),if_neg (show ¬ x.kind=20 by omega),if_pos hk]
theorem exT_22 {d:Nat}{x:Sy.Ex}(hk:x.kind=22):Sy.ai (d+1) x=Sy.eO (Sy.ai d) [⟨#[115,116,97,114,116]⟩,x.name] x.kids:=by
 conv=>lhs;unfold Sy.ai
 rw [if_neg (show ¬ 0<Sy.aW x.kind by rw [hk];decide),if_neg (show ¬ x.kind=1 by omega),if_neg (show ¬ x.kind=2 by omega),if_neg (show ¬ x.kind=3 by omega),if_neg (show ¬ x.kind=4 by omega),if_neg (show ¬ x.kind=5 by omega),if_neg (show ¬ x.kind=19 by omega),if_neg (show ¬ x.kind=20 by omega),if_neg (show ¬ x.kind=21 by omega),if_pos hk]
theorem exT_23 {d:Nat}{x:Sy.Ex}(hk:x.kind=23):Sy.ai (d+1) x=Sy.eO (Sy.ai d) [⟨#[114,101,115,117,109,101]⟩] x.kids:=by
 conv=>lhs;unfold Sy.ai
 rw [if_neg (show ¬ 0<Sy.aW x.kind by rw [hk];decide),if_neg (show ¬ x.kind=1 by omega),if_neg (show ¬ x.kind=2 by omega),if_neg (show ¬ x.kind=3 by omega),if_neg (show ¬ x.kind=4 by omega),if_neg (show ¬ x.kind=5 by omega),if_neg (show ¬ x.kind=19 by omega),if_neg (show ¬ x.kind=20 by omega),if_neg (show ¬ x.kind=21 by omega),if_neg (show ¬ x.kind=22 by omega),if_pos hk]
theorem exT_24 {d:Nat}{x:Sy.Ex}(hk:x.kind=24):Sy.ai (d+1) x=Sy.eO (Sy.ai d) [⟨#[97,108,105,118,101]⟩] x.kids:=by
 conv=>lhs;unfold Sy.ai
 rw [if_neg (show ¬ 0<Sy.aW x.kind by rw [hk];decide),if_neg (show ¬ x.kind=1 by omega),if_neg (show ¬ x.kind=2 by omega),if_neg (show ¬ x.kind=3 by omega),if_neg (show ¬ x.kind=4 by omega),if_neg (show ¬ x.kind=5 by omega),if_neg (show ¬ x.kind=19 by omega),if_neg (show ¬ x.kind=20 by omega),if_neg (show ¬ x.kind=21 by omega),if_neg (show ¬ x.kind=22 by omega),if_neg (show ¬ x.kind=23 by omega)]
theorem PW {α:Type}{l:List α}{x0 y:α}(h:l[0]?=some x0):l.headD y=x0:=by
 cases l with
 | nil=>simp at h
 | cons a l=>simp at h;subst h;rfl
theorem aac {d:Nat}{x x0 x1:Sy.Ex}(hl:0<Sy.aW x.kind)(h0:x.kids[0]?=some x0)(h1:x.kids[1]?=some x1) :
  Sy.ai (d+1) x=Sy.bU (Sy.ai d) (if Sy.aW x.kind=3 then 4 else Sy.aW x.kind) x0++[Sy.sign x.kind]++Sy.bU (Sy.ai d) (Sy.aW x.kind+1) x1:=by
 conv=>lhs;unfold Sy.ai
 rw [if_pos hl]
 cases hk:x.kids with
 | nil=>rw [hk] at h0;simp at h0
 | cons a l =>
  cases l with
  | nil=>rw [hk] at h1;simp at h1
  | cons b l =>
   rw [hk] at h0 h1
   simp at h0 h1
   subst h0 h1
   rfl
theorem aad {k:Int}(h:0<Sy.aW k):Sy.least k=2∧Sy.aW k≤5:=by
 have hk:6≤k∧k≤18:=by
  unfold Sy.aW at h
  repeat' split at h
  all_goals omega
 refine ⟨?_,?_⟩
 ·unfold Sy.least;repeat' split
  all_goals omega
 ·unfold Sy.aW;repeat' split
  all_goals omega
theorem below_grow (w:World)(k:Nat)(os:Array Obj):Below w.heap.size w (Go.Sort.grow (w.drewN k) os) :=
 ⟨rfl,rfl,rfl,by show w.heap.size≤(w.heap++os).size;simp,fun i hi=>by show (w.heap++os)[i]?=_;rw [Array.getElem?_append_left hi]⟩
theorem aae (n:Int)(h0:0≤n)(h1:n≤999999999999999)(w:World)(htab:Lib.TabIs Tryz.prog w "internal/strconv.uint64pow10" .u64 Lib.pow10Tab) :
  Calls Tryz.prog 117 #[.int .i64 n,.int .i64 10] w fun e w'=>e=.returned (.string (Sy.iU n))∧Below w.heap.size w w' :=
 (Tryz.strconv_FormatInt_10 n (by omega) (by omega) w htab).mono (by rintro e w' ⟨he,k,os,rfl⟩;exact ⟨he,below_grow w k os⟩)
theorem aaf {d:Nat}{x:Sy.Ex}(h:Sy.dR (d+1) x)(hk:x.kind=1):0≤x.n∧x.n≤999999999999999:=by
 have h0:=h.2.2.1
 rw [LX hk] at h0
 split at h0
 ·omega
 ·omega
theorem I4 {d:Nat}{x:Sy.Ex}(h:Sy.dR (d+1) x):Sy.least x.kind≤x.kids.length∧(x.kids.length:Int)≤Sy.most x.kind:=by
 have h0:=h.2.2.1
 unfold Sy.dU at h0
 repeat' split at h0
 all_goals omega
theorem aag (B M P Bs d:Nat)(hL:Lay B M P Bs)(hE:Hid (sM B M P Bs d)):sM B M P Bs (d+1):=by
 intro h x a c ws w hok hX cz hM jW hn
 cases h with
 | zero=>exact hX.out.elim
 | succ h =>
 have mr:Hid (Sy.dR (d+1) x):=hok
 have fC:=hL
 obtain ⟨hbp,hpb,hmb,hmp,iA⟩:=hL
 obtain ⟨o,ho⟩:∃ o,o=Sy.ai (d+1) x:=⟨_,rfl⟩
 rw [← ho] at hn ⊢
 have HO:Hid (o=Sy.ai (d+1) x):=ho
 have aY:Hid (w.grownBy (w.alloc (jG x a c)) none):=World.grownBy_alloc _ _ _
 have hlk:=FT M x.kind (w.alloc (jG x a c)).drew (hM.out.grown aY.out).1
 unfold uj at hlk
 obtain ⟨kk,hkk⟩:∃ kk:Int,kk=(if 0<Sy.aW x.kind then x.kind else 0):=⟨_,rfl⟩
 rw [← hkk] at hlk
 have ax:Hid (w.grownBy ((w.alloc (jG x a c)).alloc (jI 0 ⟨#[]⟩ 0)) none):=aB aY.out (World.grownBy_alloc _ _ _)
 have hlk2:=FT M x.kind ((w.alloc (jG x a c)).alloc (jI 0 ⟨#[]⟩ 0)).drew (hM.out.grown ax.out).1
 unfold uj at hlk2
 rw [← hkk] at hlk2
 obtain ⟨v,hP,hown⟩:=(cz.out.grown aY.out)
 obtain ⟨c0,c1,f0,f1⟩:=bE hP
 obtain ⟨v2,hP2,hown2⟩:=(cz.out.grown ax.out)
 obtain ⟨g0,g1,g2,g3⟩:=bE hP2
 clear hok ho hkk hP hown hP2 hown2
 go_enter Tryz.func86,Tryz.ntmps86
 go_upto_region 1 with fail
 go_cut [4] (fun p wx=>p=.pointer (some ⟨w.heap.size+1,0,none⟩)∧I1 B M P Bs h ws x a c kk (Sy.sign x.kind) (Sy.aW x.kind) w wx)
 case first =>
  go_region
  all_goals
   go_wp2_with fail
   go_meet
   exact ⟨rfl,Z9 _ _ _ hX.out cz.out hM.out (by omega)⟩
 case rest =>
  obtain ⟨sN,hmid⟩:=hcut
  subst sN
  have HC:Hid (I1 B M P Bs h ws x a c kk (Sy.sign x.kind) (Sy.aW x.kind) w wc):=hmid
  obtain ⟨b0,b1,b2,b3⟩:=pG HC.out.2.2.1
  obtain ⟨s0,s1,s2⟩:=gB HC.out.2.2.2.1
  have hsc:Bs≤wc.heap.size:=by have:=HC.out.2.1.size;omega
  have kQ:P<w.heap.size:=by omega
  have hlenx:=HC.out.2.2.2.2.2.2.1
  unfold maxLen at hlenx
  clear hmid hlk hlk2 c0 c1 f0 f1 g0 g1 g2 g3
  have hk1:=mr.out.1
  have hk2:=mr.out.2.1
  by_cases jg:0<Sy.aW x.kind
  ·obtain ⟨hl2,hL5⟩:=aad jg
   have PX:=(I4 mr.out).1
   rw [hl2] at PX
   obtain ⟨x0,hx0⟩:∃ x0,x.kids[0]?=some x0:=⟨_,List.getElem?_eq_getElem (by omega)⟩
   obtain ⟨x1,hx1⟩:∃ x1,x.kids[1]?=some x1:=⟨_,List.getElem?_eq_getElem (by omega)⟩
   have hpr:=Z8 B M P Bs d fC hE h x0 x1 x.kids a c kk (Sy.sign x.kind) (Sy.aW x.kind) ws wc hx0 hx1 (by omega) jg hL5 (mr.out.2.2.2 x0 (List.mem_of_getElem? hx0)) (mr.out.2.2.2 x1 (List.mem_of_getElem? hx1)) HC.out.2.2.2.2.2.uG HC.out.1 HC.out.2.2.2.2.1 hsc o (HO.out.trans (aac jg hx0 hx1)) hn
   clear hx0 hx1 hl2 hL5 PX hk1 hk2
   go_wp2_with fail
   refine hpr.mono ?_
   rintro e w2 hp
   have HP:Hid (bV P Bs (.map (some M)) ws o w e w2):=⟨hp.1,hp.2.1,HC.out.2.1.trans hp.2.2⟩
   obtain rfl:=hp.1
   clear hp b0 b1 b2 b3 s0 s1 s2 hpr
   go_wp2
   refine bodyPost_ret (results_none rfl _ _ _) rfl ?_
   exact HP.out
  ·have hlz:=aaa jg
   have aeO:Hid (Sy.aW x.kind=0):=hlz
   rw [hlz] at s2
   clear jg
   rcases aab hk1 hk2 hlz with hk | hk | hk | hk | hk | hk | hk | hk | hk | hk | hk
   ·have e1:(x.kind==1)=true:=by simp;omega
    have aI:Hid (x.kind=1):=hk
    clear hk hlz hk1 hk2
    obtain ⟨hr0,hr1⟩:=aaf mr.out aI.out
    have aP:Hid (o=[Sy.iU x.n]):=HO.out.trans (exT_1 aI.out)
    have hno:ws.length+1≤1000000:=by rw [aP.out] at hn;exact hn
    obtain ⟨tn,htn⟩:∃ tn,tn=Sy.iU x.n:=⟨_,rfl⟩
    have hfm:=aae x.n hr0 hr1 wc.drew HC.out.2.2.2.2.1.2
    rw [← htn] at aP hfm
    clear htn
    go_upto_region 6 with fail
    go_region_with (first | (go_at_call 117;refine hfm.mono ?_;rintro e w2 ⟨rfl,hb⟩;have HB2:Hid (Below wc.heap.size wc w2):=⟨hb.os,hb.tape,hb.output,hb.size,hb.block⟩;have hs2:Bs≤w2.heap.size:=Nat.le_trans hsc HB2.out.size;clear hb) | (go_at_call 26;refine (jB P Bs ws [tn] _ 1 w2.heap.size w2 rfl (HC.out.1.grown (AO HB2.out)) hpb hs2 hno).mono ?_;rintro e w3 hp;have HP:Hid (bV P Bs (.map (some M)) ws o w e w3):=⟨hp.1,by rw [aP.out];exact hp.2.1,HC.out.2.1.trans ((Fr.below HB2.out).trans hp.2.2)⟩;obtain rfl:=hp.1;clear hp))
    all_goals
     go_wp2
     go_end0
     exact Hid.out (by assumption)
   ·have e1:(x.kind==1)=false:=by simp;omega
    have e2:(x.kind==2)=true:=by simp;omega
    have aI:Hid (x.kind=2):=hk
    clear hk hlz hk1 hk2
    have aP:Hid (o=[Sy.lN x.n]):=HO.out.trans (exT_2 aI.out)
    have hno:ws.length+1≤1000000:=by rw [aP.out] at hn;exact hn
    obtain ⟨tn,htn⟩:∃ tn,tn=Sy.lN x.n:=⟨_,rfl⟩
    have htr:∀ w:World,Calls Tryz.prog 118 #[.int .i64 x.n] w fun e w1=>e=.returned (.string tn)∧w1=w:=by rw [htn];exact fun w=>Z5 x.n w
    rw [← htn] at aP
    clear htn
    go_upto_region 8 with fail
    go_region_with (first | (go_at_call 118;refine (htr _).mono ?_;rintro e w2 ⟨rfl,rfl⟩) | (go_at_call 26;refine (oO P Bs ws [tn] _ 1 wc.heap.size wc rfl HC.out.1 hpb hsc hno).mono ?_;rintro e w2 hp;have HP:Hid (bV P Bs (.map (some M)) ws o w e w2):=⟨hp.1,by rw [aP.out];exact hp.2.1,HC.out.2.1.trans hp.2.2⟩;obtain rfl:=hp.1;clear hp))
    all_goals
     go_wp2
     go_end0
     exact Hid.out (by assumption)
   ·have e1:(x.kind==1)=false:=by simp;omega
    have e2:(x.kind==2)=false:=by simp;omega
    have e3:(x.kind==3)=true:=by simp;omega
    have aI:Hid (x.kind=3):=hk
    clear hk hlz hk1 hk2
    have aP:Hid (o=[x.name]):=HO.out.trans (exT_3 aI.out)
    have hno:ws.length+1≤1000000:=by rw [aP.out] at hn;exact hn
    go_upto_region 10 with fail
    go_region_with (go_at_call 26;refine (oO P Bs ws [x.name] _ 1 wc.heap.size wc rfl HC.out.1 hpb hsc hno).mono ?_;rintro e w2 hp;have HP:Hid (bV P Bs (.map (some M)) ws o w e w2):=⟨hp.1,by rw [aP.out];exact hp.2.1,HC.out.2.1.trans hp.2.2⟩;obtain rfl:=hp.1;clear hp)
    all_goals
     go_wp2
     go_end0
     exact Hid.out (by assumption)
   ·have e1:(x.kind==1)=false:=by simp;omega
    have e2:(x.kind==2)=false:=by simp;omega
    have e3:(x.kind==3)=false:=by simp;omega
    have e4:(x.kind==4)=true:=by simp;omega
    have aI:Hid (x.kind=4):=hk
    clear hk hlz hk1 hk2
    obtain ⟨k0,hk0⟩:∃ k0,x.kids[0]?=some k0:=⟨_,List.getElem?_eq_getElem (by have:=(I4 mr.out).1;rw [aI.out] at this;simp [Sy.least] at this;omega)⟩
    have hlen1:0<x.kids.length:=(List.getElem?_eq_some_iff.1 hk0).1
    have aP:Hid (o=[(⟨#[45]⟩:ByteArray)]++Sy.bU (Sy.ai d) 6 k0):=by have:=HO.out.trans (exT_4 aI.out);rw [PW hk0] at this;exact this
    obtain ⟨B0,hB0⟩:∃ B0,B0=Sy.bU (Sy.ai d) 6 k0:=⟨_,rfl⟩
    have HB0:Hid (B0=Sy.bU (Sy.ai d) 6 k0):=hB0
    rw [← hB0] at aP
    have hno:ws.length+(B0.length+1)≤1000000:=by rw [aP.out] at hn;simp at hn;omega
    have aM:Hid (x.kids[0]?=some k0):=hk0
    have I5:Hid (Sy.dR d k0):=mr.out.2.2.2 k0 (List.mem_of_getElem? hk0)
    clear hB0 hk0
    go_wp2_with fail
    refine (jB P Bs ws [(⟨#[45]⟩:ByteArray)] _ 1 wc.heap.size wc rfl HC.out.1 hpb hsc (by show ws.length+1≤_;omega)).mono ?_
    rintro e w2 hp
    have fJ:Hid (PR w2 P Bs (ws++[(⟨#[45]⟩:ByteArray)]) (.map (some M))):=hp.2.1
    have bW:Hid (Fr P Bs wc w2):=hp.2.2
    have AQ:Hid (w2.heap[w.heap.size]?=some (jG x a c)):=jH HC.out.2.2.1 (by decide) (by omega) hp.2.2
    have hs2:Bs≤w2.heap.size:=by have:=hp.2.2.size;omega
    obtain rfl:=hp.1
    clear hp b0 b1 b2 b3 s0 s1 s2
    obtain ⟨b0,b1,b2,b3⟩:=pG AQ.out
    obtain ⟨kb,aah,a0,c0',hab,hkb,q0,q1,q2,q3,uH⟩:=(HC.out.2.2.2.2.2.uG.same (bW.out.same hbp hpb (by omega))).2 0 k0 aM.out
    subst hab
    simp only [Nat.zero_mul,Nat.add_zero] at q0 q1 q2 q3
    have hbr:=AP B M P Bs d fC hE h k0 a0 c0' 6 (ws++[(⟨#[45]⟩:ByteArray)]) w2 I5 uH fJ (HC.out.2.2.2.2.1.fr bW.out hmb hmp iA hpb) hs2 (by rw [← HB0.out];simp;omega)
    rw [← HB0.out] at hbr
    clear uH
    go_wp2_with fail
    refine hbr.mono ?_
    rintro e w3 hp
    have HP:Hid (bV P Bs (.map (some M)) ws o w e w3):=⟨hp.1,by rw [aP.out];have:=hp.2.1;simpa using this,HC.out.2.1.trans (bW.out.trans hp.2.2)⟩
    obtain rfl:=hp.1
    clear hp b0 b1 b2 b3 hbr q0 q1 q2 q3
    go_wp2
    go_end0
    exact HP.out
   ·have e1:(x.kind==1)=false:=by simp;omega
    have e2:(x.kind==2)=false:=by simp;omega
    have e3:(x.kind==3)=false:=by simp;omega
    have e4:(x.kind==4)=false:=by simp;omega
    have e5:(x.kind==5)=true:=by simp;omega
    have aI:Hid (x.kind=5):=hk
    clear hk hlz hk1 hk2
    obtain ⟨k0,hk0⟩:∃ k0,x.kids[0]?=some k0:=⟨_,List.getElem?_eq_getElem (by have:=(I4 mr.out).1;rw [aI.out] at this;simp [Sy.least] at this;omega)⟩
    have hlen1:0<x.kids.length:=(List.getElem?_eq_some_iff.1 hk0).1
    have aP:Hid (o=[(⟨#[110,111,116]⟩:ByteArray)]++Sy.bU (Sy.ai d) 6 k0):=by have:=HO.out.trans (exT_5 aI.out);rw [PW hk0] at this;exact this
    obtain ⟨B0,hB0⟩:∃ B0,B0=Sy.bU (Sy.ai d) 6 k0:=⟨_,rfl⟩
    have HB0:Hid (B0=Sy.bU (Sy.ai d) 6 k0):=hB0
    rw [← hB0] at aP
    have hno:ws.length+(B0.length+1)≤1000000:=by rw [aP.out] at hn;simp at hn;omega
    have aM:Hid (x.kids[0]?=some k0):=hk0
    have I5:Hid (Sy.dR d k0):=mr.out.2.2.2 k0 (List.mem_of_getElem? hk0)
    clear hB0 hk0
    go_wp2_with fail
    refine (jB P Bs ws [(⟨#[110,111,116]⟩:ByteArray)] _ 1 wc.heap.size wc rfl HC.out.1 hpb hsc (by show ws.length+1≤_;omega)).mono ?_
    rintro e w2 hp
    have fJ:Hid (PR w2 P Bs (ws++[(⟨#[110,111,116]⟩:ByteArray)]) (.map (some M))):=hp.2.1
    have bW:Hid (Fr P Bs wc w2):=hp.2.2
    have AQ:Hid (w2.heap[w.heap.size]?=some (jG x a c)):=jH HC.out.2.2.1 (by decide) (by omega) hp.2.2
    have hs2:Bs≤w2.heap.size:=by have:=hp.2.2.size;omega
    obtain rfl:=hp.1
    clear hp b0 b1 b2 b3 s0 s1 s2
    obtain ⟨b0,b1,b2,b3⟩:=pG AQ.out
    obtain ⟨kb,aah,a0,c0',hab,hkb,q0,q1,q2,q3,uH⟩:=(HC.out.2.2.2.2.2.uG.same (bW.out.same hbp hpb (by omega))).2 0 k0 aM.out
    subst hab
    simp only [Nat.zero_mul,Nat.add_zero] at q0 q1 q2 q3
    have hbr:=AP B M P Bs d fC hE h k0 a0 c0' 6 (ws++[(⟨#[110,111,116]⟩:ByteArray)]) w2 I5 uH fJ (HC.out.2.2.2.2.1.fr bW.out hmb hmp iA hpb) hs2 (by rw [← HB0.out];simp;omega)
    rw [← HB0.out] at hbr
    clear uH
    go_wp2_with fail
    refine hbr.mono ?_
    rintro e w3 hp
    have HP:Hid (bV P Bs (.map (some M)) ws o w e w3):=⟨hp.1,by rw [aP.out];have:=hp.2.1;simpa using this,HC.out.2.1.trans (bW.out.trans hp.2.2)⟩
    obtain rfl:=hp.1
    clear hp b0 b1 b2 b3 hbr q0 q1 q2 q3
    go_wp2
    go_end0
    exact HP.out
   ·have e1:(x.kind==1)=false:=by simp;omega
    have e2:(x.kind==2)=false:=by simp;omega
    have e3:(x.kind==3)=false:=by simp;omega
    have e4:(x.kind==4)=false:=by simp;omega
    have e5:(x.kind==5)=false:=by simp;omega
    have e19:(x.kind==19)=true:=by simp;omega
    have aI:Hid (x.kind=19):=hk
    clear hk hlz hk1 hk2
    have aP:Hid (o=Sy.eO (Sy.ai d) [x.name] x.kids):=HO.out.trans (exT_19 aI.out)
    have hcl:=AR B M P Bs d fC hE h x.kids a c [x.name] ⟨wc.heap.size,0,none⟩ 1 ws (wc.alloc (.cells ([x.name].map Value.string).toArray 9)) (fun k hk=>mr.out.2.2.2 k hk) (HC.out.2.2.2.2.2.uG.same (dK (World.grownBy_alloc _ _ none) (by simp) (by omega))) (HC.out.1.alloc _) (HC.out.2.2.2.2.1.grown (World.grownBy_alloc _ _ _)) (by simp;omega) (yD [x.name] wc) (by rw [← aP.out];exact hn)
    rw [← aP.out] at hcl
    go_wp2_with fail
    refine hcl.mono ?_
    rintro e w2 hp
    have HP:Hid (bV P Bs (.map (some M)) ws o w e w2):=⟨hp.1,hp.2.1,HC.out.2.1.trans ((Fr.alloc P Bs wc _).trans hp.2.2)⟩
    obtain rfl:=hp.1
    clear hp b0 b1 b2 b3 s0 s1 s2 hcl
    go_wp2
    go_end0
    exact HP.out
   ·have e1:(x.kind==1)=false:=by simp;omega
    have e2:(x.kind==2)=false:=by simp;omega
    have e3:(x.kind==3)=false:=by simp;omega
    have e4:(x.kind==4)=false:=by simp;omega
    have e5:(x.kind==5)=false:=by simp;omega
    have e19:(x.kind==19)=false:=by simp;omega
    have e20:(x.kind==20)=true:=by simp;omega
    have aI:Hid (x.kind=20):=hk
    clear hk hlz hk1 hk2
    have aP:Hid (o=[⟨#[114,101,99,118]⟩,⟨#[40]⟩,x.name,⟨#[41]⟩]):=HO.out.trans (exT_20 aI.out)
    have hno:ws.length+4≤1000000:=by rw [aP.out] at hn;exact hn
    go_upto_region 20 with fail
    go_region_with (go_at_call 26;refine (oO P Bs ws [⟨#[114,101,99,118]⟩,⟨#[40]⟩,x.name,⟨#[41]⟩] _ 4 wc.heap.size wc rfl HC.out.1 hpb hsc hno).mono ?_;rintro e w2 hp;have HP:Hid (bV P Bs (.map (some M)) ws o w e w2):=⟨hp.1,by rw [aP.out];exact hp.2.1,HC.out.2.1.trans hp.2.2⟩;obtain rfl:=hp.1;clear hp)
    all_goals
     go_wp2
     go_end0
     exact Hid.out (by assumption)
   ·have e1:(x.kind==1)=false:=by simp;omega
    have e2:(x.kind==2)=false:=by simp;omega
    have e3:(x.kind==3)=false:=by simp;omega
    have e4:(x.kind==4)=false:=by simp;omega
    have e5:(x.kind==5)=false:=by simp;omega
    have e19:(x.kind==19)=false:=by simp;omega
    have e20:(x.kind==20)=false:=by simp;omega
    have e21:(x.kind==21)=true:=by simp;omega
    have aI:Hid (x.kind=21):=hk
    clear hk hlz hk1 hk2
    have aP:Hid (o=Sy.eO (Sy.ai d) [(⟨#[121,105,101,108,100]⟩:ByteArray)] x.kids):=HO.out.trans (exT_21 aI.out)
    have hcl:=AR B M P Bs d fC hE h x.kids a c [(⟨#[121,105,101,108,100]⟩:ByteArray)] ⟨wc.heap.size,0,none⟩ 1 ws (wc.alloc (.cells ([(⟨#[121,105,101,108,100]⟩:ByteArray)].map Value.string).toArray 9)) (fun k hk=>mr.out.2.2.2 k hk) (HC.out.2.2.2.2.2.uG.same (dK (World.grownBy_alloc _ _ none) (by simp) (by omega))) (HC.out.1.alloc _) (HC.out.2.2.2.2.1.grown (World.grownBy_alloc _ _ _)) (by simp;omega) (yD [(⟨#[121,105,101,108,100]⟩:ByteArray)] wc) (by rw [← aP.out];exact hn)
    rw [← aP.out] at hcl
    go_wp2_with fail
    refine hcl.mono ?_
    rintro e w2 hp
    have HP:Hid (bV P Bs (.map (some M)) ws o w e w2):=⟨hp.1,hp.2.1,HC.out.2.1.trans ((Fr.alloc P Bs wc _).trans hp.2.2)⟩
    obtain rfl:=hp.1
    clear hp b0 b1 b2 b3 s0 s1 s2 hcl
    go_wp2
    go_end0
    exact HP.out
   ·have e1:(x.kind==1)=false:=by simp;omega
    have e2:(x.kind==2)=false:=by simp;omega
    have e3:(x.kind==3)=false:=by simp;omega
    have e4:(x.kind==4)=false:=by simp;omega
    have e5:(x.kind==5)=false:=by simp;omega
    have e19:(x.kind==19)=false:=by simp;omega
    have e20:(x.kind==20)=false:=by simp;omega
    have e21:(x.kind==21)=false:=by simp;omega
    have e22:(x.kind==22)=true:=by simp;omega
    have aI:Hid (x.kind=22):=hk
    clear hk hlz hk1 hk2
    have aP:Hid (o=Sy.eO (Sy.ai d) [(⟨#[115,116,97,114,116]⟩:ByteArray),x.name] x.kids):=HO.out.trans (exT_22 aI.out)
    have hcl:=AR B M P Bs d fC hE h x.kids a c [(⟨#[115,116,97,114,116]⟩:ByteArray),x.name] ⟨wc.heap.size,0,none⟩ 2 ws (wc.alloc (.cells ([(⟨#[115,116,97,114,116]⟩:ByteArray),x.name].map Value.string).toArray 9)) (fun k hk=>mr.out.2.2.2 k hk) (HC.out.2.2.2.2.2.uG.same (dK (World.grownBy_alloc _ _ none) (by simp) (by omega))) (HC.out.1.alloc _) (HC.out.2.2.2.2.1.grown (World.grownBy_alloc _ _ _)) (by simp;omega) (yD [(⟨#[115,116,97,114,116]⟩:ByteArray),x.name] wc) (by rw [← aP.out];exact hn)
    rw [← aP.out] at hcl
    go_wp2_with fail
    refine hcl.mono ?_
    rintro e w2 hp
    have HP:Hid (bV P Bs (.map (some M)) ws o w e w2):=⟨hp.1,hp.2.1,HC.out.2.1.trans ((Fr.alloc P Bs wc _).trans hp.2.2)⟩
    obtain rfl:=hp.1
    clear hp b0 b1 b2 b3 s0 s1 s2 hcl
    go_wp2
    go_end0
    exact HP.out
   ·have e1:(x.kind==1)=false:=by simp;omega
    have e2:(x.kind==2)=false:=by simp;omega
    have e3:(x.kind==3)=false:=by simp;omega
    have e4:(x.kind==4)=false:=by simp;omega
    have e5:(x.kind==5)=false:=by simp;omega
    have e19:(x.kind==19)=false:=by simp;omega
    have e20:(x.kind==20)=false:=by simp;omega
    have e21:(x.kind==21)=false:=by simp;omega
    have e22:(x.kind==22)=false:=by simp;omega
    have e23:(x.kind==23)=true:=by simp;omega
    have aI:Hid (x.kind=23):=hk
    clear hk hlz hk1 hk2
    have aP:Hid (o=Sy.eO (Sy.ai d) [(⟨#[114,101,115,117,109,101]⟩:ByteArray)] x.kids):=HO.out.trans (exT_23 aI.out)
    have hcl:=AR B M P Bs d fC hE h x.kids a c [(⟨#[114,101,115,117,109,101]⟩:ByteArray)] ⟨wc.heap.size,0,none⟩ 1 ws (wc.alloc (.cells ([(⟨#[114,101,115,117,109,101]⟩:ByteArray)].map Value.string).toArray 9)) (fun k hk=>mr.out.2.2.2 k hk) (HC.out.2.2.2.2.2.uG.same (dK (World.grownBy_alloc _ _ none) (by simp) (by omega))) (HC.out.1.alloc _) (HC.out.2.2.2.2.1.grown (World.grownBy_alloc _ _ _)) (by simp;omega) (yD [(⟨#[114,101,115,117,109,101]⟩:ByteArray)] wc) (by rw [← aP.out];exact hn)
    rw [← aP.out] at hcl
    go_wp2_with fail
    refine hcl.mono ?_
    rintro e w2 hp
    have HP:Hid (bV P Bs (.map (some M)) ws o w e w2):=⟨hp.1,hp.2.1,HC.out.2.1.trans ((Fr.alloc P Bs wc _).trans hp.2.2)⟩
    obtain rfl:=hp.1
    clear hp b0 b1 b2 b3 s0 s1 s2 hcl
    go_wp2
    go_end0
    exact HP.out
   ·have e1:(x.kind==1)=false:=by simp;omega
    have e2:(x.kind==2)=false:=by simp;omega
    have e3:(x.kind==3)=false:=by simp;omega
    have e4:(x.kind==4)=false:=by simp;omega
    have e5:(x.kind==5)=false:=by simp;omega
    have e19:(x.kind==19)=false:=by simp;omega
    have e20:(x.kind==20)=false:=by simp;omega
    have e21:(x.kind==21)=false:=by simp;omega
    have e22:(x.kind==22)=false:=by simp;omega
    have e23:(x.kind==23)=false:=by simp;omega
    have e24:(x.kind==24)=true:=by simp;omega
    have aI:Hid (x.kind=24):=hk
    clear hk hlz hk1 hk2
    have aP:Hid (o=Sy.eO (Sy.ai d) [(⟨#[97,108,105,118,101]⟩:ByteArray)] x.kids):=HO.out.trans (exT_24 aI.out)
    have hcl:=AR B M P Bs d fC hE h x.kids a c [(⟨#[97,108,105,118,101]⟩:ByteArray)] ⟨wc.heap.size,0,none⟩ 1 ws (wc.alloc (.cells ([(⟨#[97,108,105,118,101]⟩:ByteArray)].map Value.string).toArray 9)) (fun k hk=>mr.out.2.2.2 k hk) (HC.out.2.2.2.2.2.uG.same (dK (World.grownBy_alloc _ _ none) (by simp) (by omega))) (HC.out.1.alloc _) (HC.out.2.2.2.2.1.grown (World.grownBy_alloc _ _ _)) (by simp;omega) (yD [(⟨#[97,108,105,118,101]⟩:ByteArray)] wc) (by rw [← aP.out];exact hn)
    rw [← aP.out] at hcl
    go_wp2_with fail
    refine hcl.mono ?_
    rintro e w2 hp
    have HP:Hid (bV P Bs (.map (some M)) ws o w e w2):=⟨hp.1,hp.2.1,HC.out.2.1.trans ((Fr.alloc P Bs wc _).trans hp.2.2)⟩
    obtain rfl:=hp.1
    clear hp b0 b1 b2 b3 s0 s1 s2 hcl
    go_wp2
    go_end0
    exact HP.out
end Go.Proofs.YtolfleeidpeomaaGreatDoor
