/- The walks of the printer's ending and params. -/
import Derived.Test.YtolfleeidpeomaaGreatDoorM25
set_option maxRecDepth 100000
set_option maxHeartbeats 2000000
namespace Go.Proofs.YtolfleeidpeomaaGreatDoor
open Go.RowKit
theorem DX (B M P Bs:Nat)(hL:Lay B M P Bs):∀ d:Nat,sM B M P Bs d
 | 0=>fun _ _ _ _ _ _ hok=>hok.elim
 | d+1=>aag B M P Bs d hL (DX B M P Bs hL d)
theorem aai (B M P Bs d:Nat)(hL:Lay B M P Bs)(h:Nat)(x:Sy.Ex)(a:Option Addr)(c:Nat)(xs:List ByteArray)(ad:Addr)(c2:Nat)(ws:List ByteArray)(w:World)(hok:Hid (Sy.dR d x))(hX:Hid (aJ B w h x a))(cz:Hid (PR w P Bs ws (.map (some M))))(hM:Hid (jm w M))(jW:Bs≤w.heap.size)
  (hx:Hid (∀ j x,xs[j]?=some x→w.cell? (ad.add j)=some (.string x))) (hn:ws.length+(xs.length+((Sy.ai d x).length+1))≤1000000) :
  Calls Tryz.prog 84 #[.pointer (some ⟨P,0,none⟩),dH x a c,.slice (some ad) xs.length c2] w fun e w'=>bV P Bs (.map (some M)) ws (xs++Sy.ai d x++[⟨#[59]⟩]) w e w':=by
 have hE:=DX B M P Bs hL d
 have HE:Hid (sM B M P Bs d):=hE
 obtain ⟨hbp,hpb,hmb,hmp,iA⟩:=hL
 have aY:Hid (w.grownBy (w.alloc (jG x a c)) none):=World.grownBy_alloc _ _ _
 have HX0:Hid (∀ j x1,xs[j]?=some x1→(w.alloc (jG x a c)).cell? (ad.add j)=some (.string x1)):=by
  intro j y hy
  have h1:=hx.out j y hy
  have hlt:(ad.add j).block<w.heap.size:=by
   cases hb:w.heap[(ad.add j).block]? with
   | none=>simp [World.cell?,hb] at h1
   | some o=>exact lt_of_block hb
  exact (World.cell?_of_block (w:=w) (Below.heap_alloc _ _ _ hlt)).trans h1
 clear hE
 go_enter Tryz.func84,Tryz.ntmps84
 go_wp2_with fail
 refine (CG P Bs ws xs _ ad c2 _ (cz.out.grown aY.out) hpb (by simp;omega) HX0 (by omega)).mono ?_
 rintro e w1 ⟨rfl,hp1,hf1⟩
 have eG:Hid (PR w1 P Bs (ws++xs) (.map (some M))):=hp1
 have fK:Hid (Fr P Bs w w1):=(Fr.alloc P Bs w _).trans hf1
 have jT:Hid (w1.heap[w.heap.size]?=some (jG x a c)):=jH (heap_alloc_new w _) (by decide) (by omega) hf1
 have hs1:Bs≤w1.heap.size:=by have:=fK.out.size;omega
 obtain ⟨b0,b1,b2,b3⟩:=pG jT.out
 clear hp1 hf1
 go_wp2_with fail
 refine (HE.out h x a c (ws++xs) _ hok.out (hX.out.same (fK.out.same hbp hpb (by omega))) eG (hM.out.fr fK.out hmb hmp iA hpb) hs1 (by simp;omega)).mono ?_
 rintro e w2 hp
 have fJ:Hid (PR w2 P Bs (ws++xs++Sy.ai d x) (.map (some M))):=hp.2.1
 have bW:Hid (Fr P Bs w w2):=fK.out.trans hp.2.2
 have hs2:Bs≤w2.heap.size:=by have:=bW.out.size;omega
 obtain rfl:=hp.1
 clear hp b0 b1 b2 b3
 go_wp2_with fail
 refine (jB P Bs (ws++xs++Sy.ai d x) [⟨#[59]⟩] _ 1 w2.heap.size w2 rfl fJ hpb hs2 (by simp;omega)).mono ?_
 rintro e w3 hp
 have j3:Hid (bV P Bs (.map (some M)) ws (xs++Sy.ai d x++[⟨#[59]⟩]) w e w3):=⟨hp.1,by have:=hp.2.1;simpa using this,bW.out.trans hp.2.2⟩
 obtain rfl:=hp.1
 clear hp
 go_wp2
 go_end0
 exact j3.out
theorem PY (B P Bs:Nat)(mv:Value)(hbp:B≤P)(hpb:P<Bs)(l:List Sy.Pm)(a:Option Addr)(c:Nat)(ws:List ByteArray)(w:World)(hok:Hid (∀ p ∈ l,Sy.bN p.ty=0))(hX:Hid (rM B w l a))(cz:Hid (PR w P Bs ws mv))(jW:Bs≤w.heap.size)(hn:ws.length+(Sy.fB l).length≤1000000) :
  Calls Tryz.prog 29 #[.pointer (some ⟨P,0,none⟩),.slice a l.length c] w fun e w'=>bV P Bs mv ws (Sy.fB l) w e w':=by
 have hlen:=hX.out.1
 unfold maxLen at hlen
 obtain ⟨o,ho⟩:∃ o,o=Sy.fB l:=⟨_,rfl⟩
 have hn':ws.length+((Sy.bZ Sy.iV 0 l).length+2)≤1000000:=by unfold Sy.fB at hn;simp at hn;omega
 rw [← ho]
 have HO:Hid (o=[⟨#[40]⟩]++Sy.bZ Sy.iV 0 l++[⟨#[41]⟩]):=ho
 clear ho hn
 go_enter Tryz.func29,Tryz.ntmps29
 go_wp2_with fail
 refine (jB P Bs ws [⟨#[40]⟩] _ 1 w.heap.size w rfl cz hpb jW (by show ws.length+1≤_;omega)).mono ?_
 rintro e w2 ⟨rfl,hp2,hf2⟩
 have fJ:Hid (PR w2 P Bs (ws++[⟨#[40]⟩]++[]) mv):=by rw [List.append_nil];exact hp2
 have bW:Hid (Fr P Bs w w2):=hf2
 clear hp2 hf2
 go_wp2
 go_loopg [13] l.length (fun gk i wr=>∃ (k:Nat) (done:List ByteArray),gk=l.length - k∧k≤l.length∧i=.int .i64 k∧Hid (PR wr P Bs (ws++[⟨#[40]⟩]++done) mv)∧Hid (Fr P Bs w wr)∧Hid (done++Sy.bZ Sy.iV k (l.drop k)=Sy.bZ Sy.iV 0 l))
 case atStart=>exact ⟨0,[],rfl,Nat.zero_le _,rfl,fJ,bW,by rw [List.drop_zero];rfl⟩
 case round =>
  obtain ⟨k,done,P5,hk,rfl,kP,iK,mq⟩:=hrel
  have HGK:Hid (gk=l.length - k):=P5
  clear P5
  have AU:Bs≤wr.heap.size:=by have:=iK.out.size;omega
  by_cases hlt:k<l.length
  ·obtain ⟨p,hp⟩:∃ p,l[k]?=some p:=⟨_,List.getElem?_eq_getElem hlt⟩
   have hty:=AJ (hok.out p (List.mem_of_getElem? hp))
   have vE:=hX.out.same (iK.out.same hbp hpb (by omega))
   obtain ⟨b,off,hab,hb,q0,q1,q2,z0,z1⟩:=vE.2 k p hp
   subst hab
   have hD2:=mq.out
   rw [PT hp] at hD2
   obtain ⟨cm,hcm⟩:∃ cm,cm=(if 0<k then [(⟨#[44]⟩:ByteArray)] else []):=⟨_,rfl⟩
   rw [← hcm] at hD2
   have hcl:cm.length≤1:=by rw [hcm];split <;> simp
   have wM:=congrArg List.length hD2
   simp only [List.length_append,Sy.iV,Sy.cZ,List.length_cons,List.length_nil] at wM
   have HD2:Hid (done++(cm++Sy.iV p++Sy.bZ Sy.iV (k+1) (l.drop (k+1)))=Sy.bZ Sy.iV 0 l):=hD2
   have wN:=PS P Bs (ws++[(⟨#[40]⟩:ByteArray)]++done) mv k (wr.alloc (.cells #[.string p.name,.int .i64 p.ty.kind,.string p.ty.gen] 118)) (kP.out.alloc _) hpb (by simp;omega) (by simp only [List.length_append,List.length_cons,List.length_nil];omega)
   rw [← hcm] at wN
   clear vE hp hD2 hcm mq
   go_wp2_with fail
   refine wN.mono ?_
   rintro e w3 hp
   have j3:Hid (PR w3 P Bs (ws++[⟨#[40]⟩]++done++cm) mv):=hp.2.1
   have fM:Hid (Fr P Bs w w3):=iK.out.trans ((Fr.alloc P Bs wr _).trans hp.2.2)
   have jT:Hid (w3.heap[wr.heap.size]?=some (.cells #[.string p.name,.int .i64 p.ty.kind,.string p.ty.gen] 118 (0,0))):=jH (heap_alloc_new wr _) (by decide) (by have:=kP.out.lt;omega) hp.2.2
   have hs3:Bs≤w3.heap.size:=by have:=fM.out.size;omega
   obtain rfl:=hp.1
   obtain ⟨t0,t1,t2⟩:=gB jT.out
   clear hp q0 q1 q2 wN
   go_upto_region 5 with fail
   go_cut [] (fun wx=>PR wx P Bs (ws++[⟨#[40]⟩]++done++cm++[p.name]) mv∧Fr P Bs w wx∧wx.heap[wr.heap.size]?=some (.cells #[.string p.name,.int .i64 p.ty.kind,.string p.ty.gen] 118 (0,0)))
   case first =>
    go_region_with (go_at_call 26;refine (oO P Bs (ws++[(⟨#[40]⟩:ByteArray)]++done++cm) [p.name] _ 1 w3.heap.size w3 rfl j3 hpb hs3 (by simp only [List.length_append,List.length_cons,List.length_nil];omega)).mono ?_;rintro e w4 hp;have DY:Hid (PR w4 P Bs (ws++[⟨#[40]⟩]++done++cm++[p.name]) mv∧Fr P Bs w w4∧w4.heap[wr.heap.size]?=some (.cells #[.string p.name,.int .i64 p.ty.kind,.string p.ty.gen] 118 (0,0))):=⟨hp.2.1,fM.out.trans hp.2.2,jH jT.out (by decide) (by have:=kP.out.lt;omega) hp.2.2⟩;obtain rfl:=hp.1;clear hp)
    all_goals
     go_wp2_with fail
     go_meet
     exact Hid.out (by assumption)
   case rest =>
    have HC:Hid (PR wc P Bs (ws++[⟨#[40]⟩]++done++cm++[p.name]) mv∧Fr P Bs w wc∧wc.heap[wr.heap.size]?=some (.cells #[.string p.name,.int .i64 p.ty.kind,.string p.ty.gen] 118 (0,0))):=hcut
    clear hcut t0 t1 t2
    obtain ⟨t0,t1,t2⟩:=gB HC.out.2.2
    have hsc:Bs≤wc.heap.size:=by have:=HC.out.2.1.size;omega
    have HTy:Hid (p.ty.kind=1∨p.ty.kind=2∨p.ty.kind=3):=hty
    clear hty
    go_wp2_with fail
    refine (AL P Bs (ws++[(⟨#[40]⟩:ByteArray)]++done++cm++[p.name]) mv p.ty wc HC.out.1 hpb hsc (by simp only [List.length_append,List.length_cons,List.length_nil];omega) HTy.out).mono ?_
    rintro e w5 hp
    have wP:Hid (PR w5 P Bs (ws++[⟨#[40]⟩]++(done++cm++Sy.iV p)) mv):=by have:=hp.2.1;unfold Hid;simpa [Sy.iV] using this
    have qQ:Hid (Fr P Bs w w5):=HC.out.2.1.trans hp.2.2
    have HD5:Hid (done++cm++Sy.iV p++Sy.bZ Sy.iV (k+1) (l.drop (k+1))=Sy.bZ Sy.iV 0 l):=by rw [← HD2.out];unfold Hid;simp only [List.append_assoc]
    obtain rfl:=hp.1
    clear hp t0 t1 t2
    go_wp2
    go_roundg (l.length - (k+1))
    case measure=>have:=HGK.out;omega
    case rel=>exact ⟨k+1,done++cm++Sy.iV p,rfl,by omega,by go_num,wP,qQ,HD5⟩
  ·have HDn:Hid (done=Sy.bZ Sy.iV 0 l):=by
    have:=mq.out
    rw [List.drop_of_length_le (by omega)] at this
    unfold Hid;simpa [Sy.bZ] using this
   have hld:=congrArg List.length HDn.out
   go_wp2_with fail
   refine (jB P Bs (ws++[⟨#[40]⟩]++done) [⟨#[41]⟩] _ 1 wr.heap.size wr rfl kP hpb AU (by simp only [List.length_append,List.length_cons,List.length_nil];omega)).mono ?_
   rintro e w4 hp
   have nY:Hid (bV P Bs mv ws o w e w4):=⟨hp.1,by rw [HO.out,← HDn.out];have:=hp.2.1;simpa using this,iK.out.trans hp.2.2⟩
   obtain rfl:=hp.1
   clear hp
   go_wp2
   go_end0
   exact nY.out
namespace Sy
def lC:Nat→St→Prop
 | 0,_=>False
 | d+1,s=>1≤s.kind∧s.kind≤9∧(s.kind≠6→dR d s.x)∧(s.kind=3∨s.kind=4→∀ t ∈ s.body,lC d t)∧(s.kind=3→∀ t ∈ s.els,lC d t)
theorem I6 {f:St→Nat→Except Int Nat}{l:List St}{n m:Nat}(h:cO f l n=.ok m):∀ a ∈ l,∃ i j,f a i=.ok j:=by
 unfold cO at h
 split at h
 ·simp at h
 ·exact FX h
theorem I7:∀ (d:Nat) (s:St) (n m:Nat),aO d s n=.ok m→lC d s
 | 0,_,_,_,h=>by simp [aO] at h
 | d+1,s,n,m,h=>by
  unfold aO at h
  split at h
  ·simp at h
  ·rename_i h0
   have hz:=iC (by simpa using h0:bB s.kind 9 (d+1) n=0)
   split at h
   ·simp at h
   ·split at h
    ·rename_i h6
     exact ⟨hz.2.1,hz.2.2.1,fun hh=>absurd h6 hh,fun hh=>by omega,fun hh=>by omega⟩
    ·cases he:aF d s.x (n+1) with
     | error e=>rw [he] at h;simp at h
     | ok k =>
      rw [he] at h
      have hx:=CO d s.x _ _ he
      simp only [dN] at h
      split at h
      ·cases hb:cO (aO d) s.body k with
       | error e=>rw [hb] at h;simp at h
       | ok k2 =>
        rw [hb] at h
        simp only at h
        refine ⟨hz.2.1,hz.2.2.1,fun _=>hx,fun _ t ht=>?_,fun h3 t ht=>?_⟩
        ·obtain ⟨i,j,hij⟩:=I6 hb t ht
         exact I7 d t i j hij
        ·rw [if_pos h3] at h
         obtain ⟨i,j,hij⟩:=I6 h t ht
         exact I7 d t i j hij
      ·rename_i oQ
       exact ⟨hz.2.1,hz.2.2.1,fun _=>hx,fun hh=>absurd hh oQ,fun hh=>absurd (.inl hh) oQ⟩
end Sy
def yE (B M P Bs d:Nat):Prop:=∀ (h:Nat) (s:Sy.St) (xa:Option Addr) (xc:Nat) (ba:Option Addr) (bc:Nat) (ea:Option Addr) (ec:Nat) (ws:List ByteArray) (w:World),Sy.lC d s→Hid (cu B w h s xa ba ea)→Hid (PR w P Bs ws (.map (some M)))→Hid (jm w M)→Bs≤w.heap.size→ws.length+(Sy.aC d s).length≤1000000 →
 Calls Tryz.prog 56 #[.pointer (some ⟨P,0,none⟩),l7 s xa xc ba bc ea ec] w fun e w'=>bV P Bs (.map (some M)) ws (Sy.aC d s) w e w'
theorem aal {l:List Sy.St}{f:Sy.St→List ByteArray}{k:Nat}{s:Sy.St}(h:l[k]?=some s):(l.drop k).flatMap f=f s++(l.drop (k+1)).flatMap f:=by
 obtain ⟨hk,rfl⟩:=List.getElem?_eq_some_iff.1 h
 rw [List.drop_eq_getElem_cons hk,List.flatMap_cons]
theorem wQ (B M P Bs d:Nat)(hL:Lay B M P Bs)(hS:Hid (yE B M P Bs d))(h:Nat)(l:List Sy.St)(a:Option Addr)(c:Nat)(ws:List ByteArray)(w:World)(hok:Hid (∀ s ∈ l,Sy.lC d s))(hX:Hid (iw B w h l a))(cz:Hid (PR w P Bs ws (.map (some M))))(hM:Hid (jm w M))(jW:Bs≤w.heap.size)(hn:ws.length+(Sy.aV (Sy.aC d) l).length≤1000000) :
  Calls Tryz.prog 30 #[.pointer (some ⟨P,0,none⟩),.slice a l.length c] w fun e w'=>bV P Bs (.map (some M)) ws (Sy.aV (Sy.aC d) l) w e w':=by
 obtain ⟨hbp,hpb,hmb,hmp,iA⟩:=hL
 have hlen:=hX.out.1
 unfold maxLen at hlen
 obtain ⟨o,ho⟩:∃ o,o=Sy.aV (Sy.aC d) l:=⟨_,rfl⟩
 have hn':ws.length+((l.flatMap (Sy.aC d)).length+2)≤1000000:=by
  have e:(Sy.aV (Sy.aC d) l).length=(l.flatMap (Sy.aC d)).length+2:=by unfold Sy.aV;simp only [List.length_append,List.length_cons,List.length_nil];omega
  omega
 rw [← ho]
 have HO:Hid (o=[⟨#[123]⟩]++l.flatMap (Sy.aC d)++[⟨#[125]⟩]):=ho
 clear ho hn
 go_enter Tryz.func30,Tryz.ntmps30
 go_wp2_with fail
 refine (jB P Bs ws [⟨#[123]⟩] _ 1 w.heap.size w rfl cz hpb jW (by show ws.length+1≤_;omega)).mono ?_
 rintro e w2 ⟨rfl,hp2,hf2⟩
 have fJ:Hid (PR w2 P Bs (ws++[⟨#[123]⟩]++[]) (.map (some M))):=by rw [List.append_nil];exact hp2
 have bW:Hid (Fr P Bs w w2):=hf2
 clear hp2 hf2
 go_wp2
 go_loopw [13] (fun i wr=>∃ (k:Nat) (done:List ByteArray),k≤l.length∧i=.int .i64 k∧Hid (PR wr P Bs (ws++[⟨#[123]⟩]++done) (.map (some M)))∧Hid (Fr P Bs w wr)∧Hid (done++(l.drop k).flatMap (Sy.aC d)=l.flatMap (Sy.aC d))) (fun i _=>l.length - (intOf i).toNat)
 case atStart=>exact ⟨0,[],Nat.zero_le _,rfl,fJ,bW,by rw [List.drop_zero];rfl⟩
 case round =>
  obtain ⟨k,done,hk,rfl,kP,iK,mq⟩:=hrel
  have AU:Bs≤wr.heap.size:=by have:=iK.out.size;omega
  by_cases hlt:k<l.length
  ·obtain ⟨s,hs⟩:∃ s,l[k]?=some s:=⟨_,List.getElem?_eq_getElem hlt⟩
   have IW:Hid (Sy.lC d s):=hok.out s (List.mem_of_getElem? hs)
   obtain ⟨b,off,xa,xc,ba,bc,ea,ec,hab,hb,q0,q1,q2,q3,q4,q5,q6,q7,hin⟩:=(hX.out.same (iK.out.same hbp hpb (by omega))).2 k s hs
   subst hab
   have gJ:Hid (cu B wr h s xa ba ea):=hin
   have hD2:=mq.out
   rw [aal hs] at hD2
   have wM:=congrArg List.length hD2
   simp only [List.length_append] at wM
   have HD2:Hid (done++(Sy.aC d s++(l.drop (k+1)).flatMap (Sy.aC d))=l.flatMap (Sy.aC d)):=hD2
   obtain ⟨ls,hls⟩:∃ ls,ls=(Sy.aC d s).length:=⟨_,rfl⟩
   rw [← hls] at wM
   have HLs:Hid (ls=(Sy.aC d s).length):=hls
   clear hin hD2 hs hls mq
   go_wp2_with fail
   refine (hS.out h s xa xc ba bc ea ec (ws++[(⟨#[123]⟩:ByteArray)]++done) _ IW.out (gJ.out.same (dK (World.grownBy_alloc _ _ none) (by simp) (by omega))) (kP.out.alloc _) (hM.out.fr (iK.out.trans (Fr.alloc P Bs wr _)) hmb hmp iA hpb) (by simp;omega) (by simp only [List.length_append,List.length_cons,List.length_nil];have:=HLs.out;omega)).mono ?_
   rintro e w3 hp
   have j3:Hid (PR w3 P Bs (ws++[⟨#[123]⟩]++(done++Sy.aC d s)) (.map (some M))):=by have:=hp.2.1;unfold Hid;simpa using this
   have fM:Hid (Fr P Bs w w3):=iK.out.trans ((Fr.alloc P Bs wr _).trans hp.2.2)
   have HD3:Hid (done++Sy.aC d s++(l.drop (k+1)).flatMap (Sy.aC d)=l.flatMap (Sy.aC d)):=by rw [← HD2.out];unfold Hid;simp only [List.append_assoc]
   obtain rfl:=hp.1
   clear hp q0 q1 q2 q3 q4 q5 q6 q7
   go_wp2
   go_roundw
   case rel=>exact ⟨k+1,done++Sy.aC d s,by omega,by go_num,j3,fM,HD3⟩
   case measure=>simp [intOf];omega
  ·have HDn:Hid (done=l.flatMap (Sy.aC d)):=by
    have:=mq.out
    rw [List.drop_of_length_le (by omega)] at this
    unfold Hid;simpa using this
   have hld:=congrArg List.length HDn.out
   go_wp2_with fail
   refine (jB P Bs (ws++[⟨#[123]⟩]++done) [⟨#[125]⟩] _ 1 wr.heap.size wr rfl kP hpb AU (by simp only [List.length_append,List.length_cons,List.length_nil];omega)).mono ?_
   rintro e w4 hp
   have nY:Hid (bV P Bs (.map (some M)) ws o w e w4):=⟨hp.1,by rw [HO.out,← HDn.out];have:=hp.2.1;simpa using this,iK.out.trans hp.2.2⟩
   obtain rfl:=hp.1
   clear hp
   go_wp2
   go_end0
   exact nY.out
theorem stT_1 {d:Nat}{s:Sy.St}(hk:s.kind=1):Sy.aC (d+1) s=[⟨#[108,101,116]⟩,s.name,⟨#[61]⟩]++Sy.ai d s.x++[⟨#[59]⟩]:=by
 conv=>lhs;unfold Sy.aC
 rw [if_pos hk]
theorem stT_2 {d:Nat}{s:Sy.St}(hk:s.kind=2):Sy.aC (d+1) s=[s.name,⟨#[61]⟩]++Sy.ai d s.x++[⟨#[59]⟩]:=by
 conv=>lhs;unfold Sy.aC
 rw [if_neg (show ¬ s.kind=1 by omega),if_pos hk]
theorem stT_3 {d:Nat}{s:Sy.St}(hk:s.kind=3):Sy.aC (d+1) s=[⟨#[105,102]⟩]++Sy.ai d s.x++Sy.aV (Sy.aC d) s.body++(if s.els.length=0 then [] else [⟨#[101,108,115,101]⟩]++Sy.aV (Sy.aC d) s.els):=by
 conv=>lhs;unfold Sy.aC
 rw [if_neg (show ¬ s.kind=1 by omega),if_neg (show ¬ s.kind=2 by omega),if_pos hk]
theorem stT_4 {d:Nat}{s:Sy.St}(hk:s.kind=4):Sy.aC (d+1) s=[⟨#[119,104,105,108,101]⟩]++Sy.ai d s.x++Sy.aV (Sy.aC d) s.body:=by
 conv=>lhs;unfold Sy.aC
 rw [if_neg (show ¬ s.kind=1 by omega),if_neg (show ¬ s.kind=2 by omega),if_neg (show ¬ s.kind=3 by omega),if_pos hk]
theorem stT_5 {d:Nat}{s:Sy.St}(hk:s.kind=5):Sy.aC (d+1) s=[⟨#[114,101,116,117,114,110]⟩]++Sy.ai d s.x++[⟨#[59]⟩]:=by
 conv=>lhs;unfold Sy.aC
 rw [if_neg (show ¬ s.kind=1 by omega),if_neg (show ¬ s.kind=2 by omega),if_neg (show ¬ s.kind=3 by omega),if_neg (show ¬ s.kind=4 by omega),if_pos hk]
theorem stT_6 {d:Nat}{s:Sy.St}(hk:s.kind=6):Sy.aC (d+1) s=[⟨#[115,116,111,112]⟩,⟨#[59]⟩]:=by
 conv=>lhs;unfold Sy.aC
 rw [if_neg (show ¬ s.kind=1 by omega),if_neg (show ¬ s.kind=2 by omega),if_neg (show ¬ s.kind=3 by omega),if_neg (show ¬ s.kind=4 by omega),if_neg (show ¬ s.kind=5 by omega),if_pos hk]
theorem stT_7 {d:Nat}{s:Sy.St}(hk:s.kind=7):Sy.aC (d+1) s=[⟨#[115,101,110,100]⟩,s.name]++Sy.ai d s.x++[⟨#[59]⟩]:=by
 conv=>lhs;unfold Sy.aC
 rw [if_neg (show ¬ s.kind=1 by omega),if_neg (show ¬ s.kind=2 by omega),if_neg (show ¬ s.kind=3 by omega),if_neg (show ¬ s.kind=4 by omega),if_neg (show ¬ s.kind=5 by omega),if_neg (show ¬ s.kind=6 by omega),if_pos hk]
theorem stT_8 {d:Nat}{s:Sy.St}(hk:s.kind=8):Sy.aC (d+1) s=[⟨#[111,117,116]⟩]++Sy.ai d s.x++[⟨#[59]⟩]:=by
 conv=>lhs;unfold Sy.aC
 rw [if_neg (show ¬ s.kind=1 by omega),if_neg (show ¬ s.kind=2 by omega),if_neg (show ¬ s.kind=3 by omega),if_neg (show ¬ s.kind=4 by omega),if_neg (show ¬ s.kind=5 by omega),if_neg (show ¬ s.kind=6 by omega),if_neg (show ¬ s.kind=7 by omega),if_pos hk]
theorem stT_9 {d:Nat}{s:Sy.St}(hk:s.kind=9):Sy.aC (d+1) s=[⟨#[100,111]⟩]++Sy.ai d s.x++[⟨#[59]⟩]:=by
 conv=>lhs;unfold Sy.aC
 rw [if_neg (show ¬ s.kind=1 by omega),if_neg (show ¬ s.kind=2 by omega),if_neg (show ¬ s.kind=3 by omega),if_neg (show ¬ s.kind=4 by omega),if_neg (show ¬ s.kind=5 by omega),if_neg (show ¬ s.kind=6 by omega),if_neg (show ¬ s.kind=7 by omega),if_neg (show ¬ s.kind=8 by omega)]
theorem yF (B M P Bs d:Nat)(hL:Lay B M P Bs)(h:Nat)(x:Sy.Ex)(a:Option Addr)(c:Nat)(xs:List ByteArray)(N c2:Nat)(ws:List ByteArray)(w:World)(hN:w.heap.size=N)(hok:Hid (Sy.dR d x))(hX:Hid (aJ B w h x a))(cz:Hid (PR w P Bs ws (.map (some M))))(hM:Hid (jm w M))(jW:Bs≤w.heap.size)
  (hn:ws.length+(xs.length+((Sy.ai d x).length+1))≤1000000) :
  Calls Tryz.prog 84 #[.pointer (some ⟨P,0,none⟩),dH x a c,.slice (some ⟨N,0,none⟩) xs.length c2] (w.alloc (.cells (xs.map Value.string).toArray 9)) fun e w'=>bV P Bs (.map (some M)) ws (xs++Sy.ai d x++[⟨#[59]⟩]) w e w':=by
 subst hN
 have hg:=World.grownBy_alloc w (.cells (xs.map Value.string).toArray 9) none
 have hbp:=hL.bp
 have hpb:=hL.pb
 refine (aai B M P Bs d hL h x a c xs ⟨w.heap.size,0,none⟩ c2 ws _ hok (hX.out.same (dK hg (by simp) (by omega))) (cz.out.grown hg) (hM.out.grown hg) (by simp;omega) (yD xs w) hn).mono ?_
 rintro e w' hp
 exact ⟨hp.1,hp.2.1,(Fr.alloc P Bs w _).trans hp.2.2⟩
theorem aan (B M P Bs d:Nat)(hL:Lay B M P Bs)(hS:Hid (yE B M P Bs d))(h:Nat)(s:Sy.St)(xa:Option Addr)(xc:Nat)(ba:Option Addr)(bc:Nat)(ea:Option Addr)(ec:Nat)(ws:List ByteArray)(w:World)(hk:s.kind=3)(hok:Hid (Sy.lC (d+1) s))(hX:Hid (cu B w (h+1) s xa ba ea))(cz:Hid (PR w P Bs ws (.map (some M))))(hM:Hid (jm w M))(jW:Bs≤w.heap.size)(hn:ws.length+(Sy.aC (d+1) s).length≤1000000) :
  Calls Tryz.prog 85 #[.pointer (some ⟨P,0,none⟩),l7 s xa xc ba bc ea ec] w fun e w'=>bV P Bs (.map (some M)) ws (Sy.aC (d+1) s) w e w':=by
 have hE:=DX B M P Bs hL d
 have HE:Hid (sM B M P Bs d):=hE
 clear hE
 have fC:=hL
 obtain ⟨hbp,hpb,hmb,hmp,iA⟩:=hL
 obtain ⟨hname,⟨hx,AY⟩,hlb,hle,AZ,A7⟩:=hX.out
 have A8:Hid (aJ B w hx s.x xa):=AY
 have rC:Hid (iw B w h s.body ba):=⟨hlb,AZ⟩
 have P6:Hid (iw B w h s.els ea):=⟨hle,A7⟩
 have aY:Hid (w.grownBy (w.alloc (dC s xa xc ba bc ea ec)) none):=World.grownBy_alloc _ _ _
 have jO:Hid (Fr P Bs w (w.alloc (dC s xa xc ba bc ea ec))):=Fr.alloc _ _ _ _
 have hs0:Bs≤(w.alloc (dC s xa xc ba bc ea ec)).heap.size:=by simp;omega
 have kQ:P<w.heap.size:=by omega
 unfold maxLen at hlb hle
 clear AY AZ A7 hname
 have lX:Hid (Sy.dR d s.x):=hok.out.2.2.1 (by omega)
 have DZ:Hid (∀ t ∈ s.body,Sy.lC d t):=hok.out.2.2.2.1 (.inl hk)
 have aao:Hid (∀ t ∈ s.els,Sy.lC d t):=hok.out.2.2.2.2 hk
 obtain ⟨o,ho⟩:∃ o,o=Sy.aC (d+1) s:=⟨_,rfl⟩
 rw [← ho] at hn ⊢
 have HO:Hid (o=[⟨#[105,102]⟩]++Sy.ai d s.x++Sy.aV (Sy.aC d) s.body++(if s.els.length=0 then [] else [⟨#[101,108,115,101]⟩]++Sy.aV (Sy.aC d) s.els)):=ho.trans (stT_3 hk)
 clear ho hk
 by_cases he:s.els.length=0
 ·have aP:Hid (o=[⟨#[105,102]⟩]++Sy.ai d s.x++Sy.aV (Sy.aC d) s.body):=by have:=HO.out;rw [if_pos he,List.append_nil] at this;exact this
  have hno:ws.length+(1+((Sy.ai d s.x).length+(Sy.aV (Sy.aC d) s.body).length))≤1000000:=by rw [aP.out] at hn;simp only [List.length_append,List.length_cons,List.length_nil] at hn;omega
  have ge:((s.els.length:Nat):Int)≤0:=by omega
  clear he
  go_enter Tryz.func85,Tryz.ntmps85
  go_wp2_with fail
  refine (jB P Bs ws [(⟨#[105,102]⟩:ByteArray)] _ 1 (w.heap.size+1) _ (by simp) (cz.out.grown aY.out) hpb hs0 (by show ws.length+1≤_;omega)).mono ?_
  rintro e w1 hp
  have eG:Hid (PR w1 P Bs (ws++[(⟨#[105,102]⟩:ByteArray)]) (.map (some M))):=hp.2.1
  have fK:Hid (Fr P Bs w w1):=jO.out.trans hp.2.2
  have HB1:Hid (w1.heap[w.heap.size]?=some (dC s xa xc ba bc ea ec)):=jH (heap_alloc_new w _) (by decide) (by omega) hp.2.2
  have hs1:Bs≤w1.heap.size:=by have:=fK.out.size;omega
  obtain rfl:=hp.1
  clear hp
  obtain ⟨b0,b1,b2,b3,b4,b5,b6,b7⟩:=dQ HB1.out
  go_wp2_with fail
  refine (HE.out hx s.x xa xc (ws++[(⟨#[105,102]⟩:ByteArray)]) _ lX.out (A8.out.same (fK.out.same hbp hpb (by omega))) eG (hM.out.fr fK.out hmb hmp iA hpb) hs1 (by simp;omega)).mono ?_
  rintro e w2 hp
  have fJ:Hid (PR w2 P Bs (ws++[(⟨#[105,102]⟩:ByteArray)]++Sy.ai d s.x) (.map (some M))):=hp.2.1
  have bW:Hid (Fr P Bs w w2):=fK.out.trans hp.2.2
  have HB2:Hid (w2.heap[w.heap.size]?=some (dC s xa xc ba bc ea ec)):=jH HB1.out (by decide) (by omega) hp.2.2
  have hs2:Bs≤w2.heap.size:=by have:=bW.out.size;omega
  obtain rfl:=hp.1
  clear hp b0 b1 b2 b3 b4 b5 b6 b7
  obtain ⟨b0,b1,b2,b3,b4,b5,b6,b7⟩:=dQ HB2.out
  go_wp2_with fail
  refine (wQ B M P Bs d fC hS h s.body ba bc (ws++[(⟨#[105,102]⟩:ByteArray)]++Sy.ai d s.x) _ DZ (rC.out.same (bW.out.same hbp hpb (by omega))) fJ (hM.out.fr bW.out hmb hmp iA hpb) hs2 (by simp only [List.length_append,List.length_cons,List.length_nil];omega)).mono ?_
  rintro e w3 hp
  have j3:Hid (PR w3 P Bs (ws++[(⟨#[105,102]⟩:ByteArray)]++Sy.ai d s.x++Sy.aV (Sy.aC d) s.body) (.map (some M))):=hp.2.1
  have fM:Hid (Fr P Bs w w3):=bW.out.trans hp.2.2
  have HB3:Hid (w3.heap[w.heap.size]?=some (dC s xa xc ba bc ea ec)):=jH HB2.out (by decide) (by omega) hp.2.2
  have hs3:Bs≤w3.heap.size:=by have:=fM.out.size;omega
  obtain rfl:=hp.1
  clear hp b0 b1 b2 b3 b4 b5 b6 b7
  obtain ⟨b0,b1,b2,b3,b4,b5,b6,b7⟩:=dQ HB3.out
  go_wp2
  go_end0
  exact ⟨rfl,by rw [aP.out];have:=j3.out;simpa using this,fM.out⟩
 ·have aP:Hid (o=[⟨#[105,102]⟩]++Sy.ai d s.x++Sy.aV (Sy.aC d) s.body++([⟨#[101,108,115,101]⟩]++Sy.aV (Sy.aC d) s.els)):=by have:=HO.out;rw [if_neg he] at this;exact this
  have hno:ws.length+(1+((Sy.ai d s.x).length+(Sy.aV (Sy.aC d) s.body).length+(1+(Sy.aV (Sy.aC d) s.els).length)))≤1000000:=by rw [aP.out] at hn;simp only [List.length_append,List.length_cons,List.length_nil] at hn;omega
  have ge:0<((s.els.length:Nat):Int):=by omega
  clear he
  go_enter Tryz.func85,Tryz.ntmps85
  go_wp2_with fail
  refine (jB P Bs ws [(⟨#[105,102]⟩:ByteArray)] _ 1 (w.heap.size+1) _ (by simp) (cz.out.grown aY.out) hpb hs0 (by show ws.length+1≤_;omega)).mono ?_
  rintro e w1 hp
  have eG:Hid (PR w1 P Bs (ws++[(⟨#[105,102]⟩:ByteArray)]) (.map (some M))):=hp.2.1
  have fK:Hid (Fr P Bs w w1):=jO.out.trans hp.2.2
  have HB1:Hid (w1.heap[w.heap.size]?=some (dC s xa xc ba bc ea ec)):=jH (heap_alloc_new w _) (by decide) (by omega) hp.2.2
  have hs1:Bs≤w1.heap.size:=by have:=fK.out.size;omega
  obtain rfl:=hp.1
  clear hp
  obtain ⟨b0,b1,b2,b3,b4,b5,b6,b7⟩:=dQ HB1.out
  go_wp2_with fail
  refine (HE.out hx s.x xa xc (ws++[(⟨#[105,102]⟩:ByteArray)]) _ lX.out (A8.out.same (fK.out.same hbp hpb (by omega))) eG (hM.out.fr fK.out hmb hmp iA hpb) hs1 (by simp;omega)).mono ?_
  rintro e w2 hp
  have fJ:Hid (PR w2 P Bs (ws++[(⟨#[105,102]⟩:ByteArray)]++Sy.ai d s.x) (.map (some M))):=hp.2.1
  have bW:Hid (Fr P Bs w w2):=fK.out.trans hp.2.2
  have HB2:Hid (w2.heap[w.heap.size]?=some (dC s xa xc ba bc ea ec)):=jH HB1.out (by decide) (by omega) hp.2.2
  have hs2:Bs≤w2.heap.size:=by have:=bW.out.size;omega
  obtain rfl:=hp.1
  clear hp b0 b1 b2 b3 b4 b5 b6 b7
  obtain ⟨b0,b1,b2,b3,b4,b5,b6,b7⟩:=dQ HB2.out
  go_wp2_with fail
  refine (wQ B M P Bs d fC hS h s.body ba bc (ws++[(⟨#[105,102]⟩:ByteArray)]++Sy.ai d s.x) _ DZ (rC.out.same (bW.out.same hbp hpb (by omega))) fJ (hM.out.fr bW.out hmb hmp iA hpb) hs2 (by simp only [List.length_append,List.length_cons,List.length_nil];omega)).mono ?_
  rintro e w3 hp
  have j3:Hid (PR w3 P Bs (ws++[(⟨#[105,102]⟩:ByteArray)]++Sy.ai d s.x++Sy.aV (Sy.aC d) s.body) (.map (some M))):=hp.2.1
  have fM:Hid (Fr P Bs w w3):=bW.out.trans hp.2.2
  have HB3:Hid (w3.heap[w.heap.size]?=some (dC s xa xc ba bc ea ec)):=jH HB2.out (by decide) (by omega) hp.2.2
  have hs3:Bs≤w3.heap.size:=by have:=fM.out.size;omega
  obtain rfl:=hp.1
  clear hp b0 b1 b2 b3 b4 b5 b6 b7
  obtain ⟨b0,b1,b2,b3,b4,b5,b6,b7⟩:=dQ HB3.out
  go_wp2_with fail
  refine (jB P Bs (ws++[(⟨#[105,102]⟩:ByteArray)]++Sy.ai d s.x++Sy.aV (Sy.aC d) s.body) [⟨#[101,108,115,101]⟩] _ 1 w3.heap.size w3 rfl j3 hpb hs3 (by simp only [List.length_append,List.length_cons,List.length_nil];omega)).mono ?_
  rintro e w4 hp
  have nY:Hid (PR w4 P Bs (ws++[⟨#[105,102]⟩]++Sy.ai d s.x++Sy.aV (Sy.aC d) s.body++[⟨#[101,108,115,101]⟩]) (.map (some M))):=hp.2.1
  have lq:Hid (Fr P Bs w w4):=fM.out.trans hp.2.2
  have iy:Hid (w4.heap[w.heap.size]?=some (dC s xa xc ba bc ea ec)):=jH HB3.out (by decide) (by omega) hp.2.2
  have hs4:Bs≤w4.heap.size:=by have:=lq.out.size;omega
  obtain rfl:=hp.1
  clear hp b0 b1 b2 b3 b4 b5 b6 b7
  obtain ⟨b0,b1,b2,b3,b4,b5,b6,b7⟩:=dQ iy.out
  go_wp2_with fail
  refine (wQ B M P Bs d fC hS h s.els ea ec _ _ aao (P6.out.same (lq.out.same hbp hpb (by omega))) nY (hM.out.fr lq.out hmb hmp iA hpb) hs4 (by simp only [List.length_append,List.length_cons,List.length_nil];omega)).mono ?_
  rintro e w5 hp
  have wP:Hid (bV P Bs (.map (some M)) ws o w e w5):=⟨hp.1,by rw [aP.out];have:=hp.2.1;simpa using this,lq.out.trans hp.2.2⟩
  obtain rfl:=hp.1
  clear hp b0 b1 b2 b3 b4 b5 b6 b7
  go_wp2
  go_end0
  exact wP.out
theorem aap (B M P Bs d:Nat)(hL:Lay B M P Bs)(hS:Hid (yE B M P Bs d)):yE B M P Bs (d+1):=by
 intro h s xa xc ba bc ea ec ws w hok0 hX cz hM jW hn
 cases h with
 | zero=>exact hX.out.elim
 | succ h =>
 have hok:Hid (Sy.lC (d+1) s):=hok0
 have hk1:=hok0.1
 have hk2:=hok0.2.1
 clear hok0
 have hE:=DX B M P Bs hL d
 have HE:Hid (sM B M P Bs d):=hE
 clear hE
 have fC:=hL
 obtain ⟨hbp,hpb,hmb,hmp,iA⟩:=hL
 obtain ⟨hname,⟨hx,AY⟩,hlb,hle,AZ,A7⟩:=hX.out
 have A8:Hid (aJ B w hx s.x xa):=AY
 have rC:Hid (iw B w h s.body ba):=⟨hlb,AZ⟩
 have P6:Hid (iw B w h s.els ea):=⟨hle,A7⟩
 have aY:Hid (w.grownBy (w.alloc (dC s xa xc ba bc ea ec)) none):=World.grownBy_alloc _ _ _
 have jO:Hid (Fr P Bs w (w.alloc (dC s xa xc ba bc ea ec))):=Fr.alloc _ _ _ _
 have hs0:Bs≤(w.alloc (dC s xa xc ba bc ea ec)).heap.size:=by simp;omega
 have kQ:P<w.heap.size:=by omega
 unfold maxLen at hlb hle
 clear AY AZ A7 hname
 have HX0:Hid (aJ B (w.alloc (dC s xa xc ba bc ea ec)) hx s.x xa):=A8.out.same (dK aY.out (by simp) (by omega))
 obtain ⟨o,ho⟩:∃ o,o=Sy.aC (d+1) s:=⟨_,rfl⟩
 rw [← ho] at hn ⊢
 have HO:Hid (o=Sy.aC (d+1) s):=ho
 clear ho
 rcases (show s.kind=1∨s.kind=2∨s.kind=3∨s.kind=4∨s.kind=5∨s.kind=6∨s.kind=7∨s.kind=8∨s.kind=9 by omega) with hk | hk | hk | hk | hk | hk | hk | hk | hk
 ·have e1:(s.kind==1)=true:=by simp;omega
  have aI:Hid (s.kind=1):=hk
  clear hk hk1 hk2
  have aP:Hid (o=[(⟨#[108,101,116]⟩:ByteArray),s.name,⟨#[61]⟩]++Sy.ai d s.x++[⟨#[59]⟩]):=HO.out.trans (stT_1 aI.out)
  have hno:ws.length+(3+((Sy.ai d s.x).length+1))≤1000000:=by rw [aP.out] at hn;simp only [List.length_append,List.length_cons,List.length_nil] at hn;omega
  have lX:Hid (Sy.dR d s.x):=hok.out.2.2.1 (by have:=aI.out;omega)
  have hend:=yF B M P Bs d fC hx s.x xa xc [(⟨#[108,101,116]⟩:ByteArray),s.name,⟨#[61]⟩] (w.heap.size+1) 3 ws (w.alloc (dC s xa xc ba bc ea ec)) (by simp) lX HX0 (cz.out.grown aY.out) (hM.out.grown aY.out) hs0 hno
  rw [← aP.out] at hend
  go_enter Tryz.func56,Tryz.ntmps56
  go_wp2_with fail
  refine hend.mono ?_
  rintro e w1 hp
  have HP:Hid (bV P Bs (.map (some M)) ws o w e w1):=⟨hp.1,hp.2.1,jO.out.trans hp.2.2⟩
  obtain rfl:=hp.1
  clear hp hend
  go_wp2
  go_end0
  exact HP.out
 ·have e1:(s.kind==1)=false:=by simp;omega
  have e2:(s.kind==2)=true:=by simp;omega
  have aI:Hid (s.kind=2):=hk
  clear hk hk1 hk2
  have aP:Hid (o=[s.name,(⟨#[61]⟩:ByteArray)]++Sy.ai d s.x++[⟨#[59]⟩]):=HO.out.trans (stT_2 aI.out)
  have hno:ws.length+(2+((Sy.ai d s.x).length+1))≤1000000:=by rw [aP.out] at hn;simp only [List.length_append,List.length_cons,List.length_nil] at hn;omega
  have lX:Hid (Sy.dR d s.x):=hok.out.2.2.1 (by have:=aI.out;omega)
  have hend:=yF B M P Bs d fC hx s.x xa xc [s.name,(⟨#[61]⟩:ByteArray)] (w.heap.size+1) 2 ws (w.alloc (dC s xa xc ba bc ea ec)) (by simp) lX HX0 (cz.out.grown aY.out) (hM.out.grown aY.out) hs0 hno
  rw [← aP.out] at hend
  go_enter Tryz.func56,Tryz.ntmps56
  go_wp2_with fail
  refine hend.mono ?_
  rintro e w1 hp
  have HP:Hid (bV P Bs (.map (some M)) ws o w e w1):=⟨hp.1,hp.2.1,jO.out.trans hp.2.2⟩
  obtain rfl:=hp.1
  clear hp hend
  go_wp2
  go_end0
  exact HP.out
 ·have e1:(s.kind==1)=false:=by simp;omega
  have e2:(s.kind==2)=false:=by simp;omega
  have e3:(s.kind==3)=true:=by simp;omega
  have aI:Hid (s.kind=3):=hk
  clear hk hk1 hk2
  have P7:ws.length+(Sy.aC (d+1) s).length≤1000000:=by rw [← HO.out];exact hn
  have hch:=aan B M P Bs d fC hS h s xa xc ba bc ea ec ws (w.alloc (dC s xa xc ba bc ea ec)) aI.out hok (hX.out.same (dK aY.out (by simp) (by omega))) (cz.out.grown aY.out) (hM.out.grown aY.out) hs0 P7
  rw [← HO.out] at hch
  clear P7
  go_enter Tryz.func56,Tryz.ntmps56
  go_wp2_with fail
  refine hch.mono ?_
  rintro e w1 hp
  have HP:Hid (bV P Bs (.map (some M)) ws o w e w1):=⟨hp.1,hp.2.1,jO.out.trans hp.2.2⟩
  obtain rfl:=hp.1
  clear hp hch
  go_wp2
  go_end0
  exact HP.out
 ·have e1:(s.kind==1)=false:=by simp;omega
  have e2:(s.kind==2)=false:=by simp;omega
  have e3:(s.kind==3)=false:=by simp;omega
  have e4:(s.kind==4)=true:=by simp;omega
  have aI:Hid (s.kind=4):=hk
  clear hk hk1 hk2
  have aP:Hid (o=[⟨#[119,104,105,108,101]⟩]++Sy.ai d s.x++Sy.aV (Sy.aC d) s.body):=HO.out.trans (stT_4 aI.out)
  have hno:ws.length+(1+((Sy.ai d s.x).length+(Sy.aV (Sy.aC d) s.body).length))≤1000000:=by rw [aP.out] at hn;simp only [List.length_append,List.length_cons,List.length_nil] at hn;omega
  have lX:Hid (Sy.dR d s.x):=hok.out.2.2.1 (by have:=aI.out;omega)
  have DZ:Hid (∀ t ∈ s.body,Sy.lC d t):=hok.out.2.2.2.1 (.inr aI.out)
  go_enter Tryz.func56,Tryz.ntmps56
  go_wp2_with fail
  refine (jB P Bs ws [(⟨#[119,104,105,108,101]⟩:ByteArray)] _ 1 (w.heap.size+1) _ (by simp) (cz.out.grown aY.out) hpb hs0 (by show ws.length+1≤_;omega)).mono ?_
  rintro e w1 hp
  have eG:Hid (PR w1 P Bs (ws++[(⟨#[119,104,105,108,101]⟩:ByteArray)]) (.map (some M))):=hp.2.1
  have fK:Hid (Fr P Bs w w1):=jO.out.trans hp.2.2
  have HB1:Hid (w1.heap[w.heap.size]?=some (dC s xa xc ba bc ea ec)):=jH (heap_alloc_new w _) (by decide) (by omega) hp.2.2
  have hs1:Bs≤w1.heap.size:=by have:=fK.out.size;omega
  obtain rfl:=hp.1
  clear hp
  obtain ⟨b0,b1,b2,b3,b4,b5,b6,b7⟩:=dQ HB1.out
  go_wp2_with fail
  refine (HE.out hx s.x xa xc (ws++[(⟨#[119,104,105,108,101]⟩:ByteArray)]) _ lX.out (A8.out.same (fK.out.same hbp hpb (by omega))) eG (hM.out.fr fK.out hmb hmp iA hpb) hs1 (by simp;omega)).mono ?_
  rintro e w2 hp
  have fJ:Hid (PR w2 P Bs (ws++[(⟨#[119,104,105,108,101]⟩:ByteArray)]++Sy.ai d s.x) (.map (some M))):=hp.2.1
  have bW:Hid (Fr P Bs w w2):=fK.out.trans hp.2.2
  have HB2:Hid (w2.heap[w.heap.size]?=some (dC s xa xc ba bc ea ec)):=jH HB1.out (by decide) (by omega) hp.2.2
  have hs2:Bs≤w2.heap.size:=by have:=bW.out.size;omega
  obtain rfl:=hp.1
  clear hp b0 b1 b2 b3 b4 b5 b6 b7
  obtain ⟨b0,b1,b2,b3,b4,b5,b6,b7⟩:=dQ HB2.out
  go_wp2_with fail
  refine (wQ B M P Bs d fC hS h s.body ba bc (ws++[(⟨#[119,104,105,108,101]⟩:ByteArray)]++Sy.ai d s.x) _ DZ (rC.out.same (bW.out.same hbp hpb (by omega))) fJ (hM.out.fr bW.out hmb hmp iA hpb) hs2 (by simp only [List.length_append,List.length_cons,List.length_nil];omega)).mono ?_
  rintro e w3 hp
  have j3:Hid (PR w3 P Bs (ws++[(⟨#[119,104,105,108,101]⟩:ByteArray)]++Sy.ai d s.x++Sy.aV (Sy.aC d) s.body) (.map (some M))):=hp.2.1
  have fM:Hid (Fr P Bs w w3):=bW.out.trans hp.2.2
  have HB3:Hid (w3.heap[w.heap.size]?=some (dC s xa xc ba bc ea ec)):=jH HB2.out (by decide) (by omega) hp.2.2
  have hs3:Bs≤w3.heap.size:=by have:=fM.out.size;omega
  obtain rfl:=hp.1
  clear hp b0 b1 b2 b3 b4 b5 b6 b7
  obtain ⟨b0,b1,b2,b3,b4,b5,b6,b7⟩:=dQ HB3.out
  go_wp2
  go_end0
  exact ⟨rfl,by rw [aP.out];have:=j3.out;simpa using this,fM.out⟩
 ·have e1:(s.kind==1)=false:=by simp;omega
  have e2:(s.kind==2)=false:=by simp;omega
  have e3:(s.kind==3)=false:=by simp;omega
  have e4:(s.kind==4)=false:=by simp;omega
  have e5:(s.kind==5)=true:=by simp;omega
  have aI:Hid (s.kind=5):=hk
  clear hk hk1 hk2
  have aP:Hid (o=[(⟨#[114,101,116,117,114,110]⟩:ByteArray)]++Sy.ai d s.x++[⟨#[59]⟩]):=HO.out.trans (stT_5 aI.out)
  have hno:ws.length+(1+((Sy.ai d s.x).length+1))≤1000000:=by rw [aP.out] at hn;simp only [List.length_append,List.length_cons,List.length_nil] at hn;omega
  have lX:Hid (Sy.dR d s.x):=hok.out.2.2.1 (by have:=aI.out;omega)
  have hend:=yF B M P Bs d fC hx s.x xa xc [(⟨#[114,101,116,117,114,110]⟩:ByteArray)] (w.heap.size+1) 1 ws (w.alloc (dC s xa xc ba bc ea ec)) (by simp) lX HX0 (cz.out.grown aY.out) (hM.out.grown aY.out) hs0 hno
  rw [← aP.out] at hend
  go_enter Tryz.func56,Tryz.ntmps56
  go_wp2_with fail
  refine hend.mono ?_
  rintro e w1 hp
  have HP:Hid (bV P Bs (.map (some M)) ws o w e w1):=⟨hp.1,hp.2.1,jO.out.trans hp.2.2⟩
  obtain rfl:=hp.1
  clear hp hend
  go_wp2
  go_end0
  exact HP.out
 ·have e1:(s.kind==1)=false:=by simp;omega
  have e2:(s.kind==2)=false:=by simp;omega
  have e3:(s.kind==3)=false:=by simp;omega
  have e4:(s.kind==4)=false:=by simp;omega
  have e5:(s.kind==5)=false:=by simp;omega
  have e6:(s.kind==6)=true:=by simp;omega
  have aI:Hid (s.kind=6):=hk
  clear hk hk1 hk2
  have aP:Hid (o=[⟨#[115,116,111,112]⟩,⟨#[59]⟩]):=HO.out.trans (stT_6 aI.out)
  have hno:ws.length+2≤1000000:=by rw [aP.out] at hn;exact hn
  go_enter Tryz.func56,Tryz.ntmps56
  go_wp2_with fail
  refine (jB P Bs ws [⟨#[115,116,111,112]⟩,⟨#[59]⟩] _ 2 (w.heap.size+1) _ (by simp) (cz.out.grown aY.out) hpb hs0 hno).mono ?_
  rintro e w1 hp
  have HP:Hid (bV P Bs (.map (some M)) ws o w e w1):=⟨hp.1,by rw [aP.out];exact hp.2.1,jO.out.trans hp.2.2⟩
  obtain rfl:=hp.1
  clear hp
  go_wp2
  go_end0
  exact HP.out
 ·have e1:(s.kind==1)=false:=by simp;omega
  have e2:(s.kind==2)=false:=by simp;omega
  have e3:(s.kind==3)=false:=by simp;omega
  have e4:(s.kind==4)=false:=by simp;omega
  have e5:(s.kind==5)=false:=by simp;omega
  have e6:(s.kind==6)=false:=by simp;omega
  have e7:(s.kind==7)=true:=by simp;omega
  have aI:Hid (s.kind=7):=hk
  clear hk hk1 hk2
  have aP:Hid (o=[(⟨#[115,101,110,100]⟩:ByteArray),s.name]++Sy.ai d s.x++[⟨#[59]⟩]):=HO.out.trans (stT_7 aI.out)
  have hno:ws.length+(2+((Sy.ai d s.x).length+1))≤1000000:=by rw [aP.out] at hn;simp only [List.length_append,List.length_cons,List.length_nil] at hn;omega
  have lX:Hid (Sy.dR d s.x):=hok.out.2.2.1 (by have:=aI.out;omega)
  have hend:=yF B M P Bs d fC hx s.x xa xc [(⟨#[115,101,110,100]⟩:ByteArray),s.name] (w.heap.size+1) 2 ws (w.alloc (dC s xa xc ba bc ea ec)) (by simp) lX HX0 (cz.out.grown aY.out) (hM.out.grown aY.out) hs0 hno
  rw [← aP.out] at hend
  go_enter Tryz.func56,Tryz.ntmps56
  go_wp2_with fail
  refine hend.mono ?_
  rintro e w1 hp
  have HP:Hid (bV P Bs (.map (some M)) ws o w e w1):=⟨hp.1,hp.2.1,jO.out.trans hp.2.2⟩
  obtain rfl:=hp.1
  clear hp hend
  go_wp2
  go_end0
  exact HP.out
 ·have e1:(s.kind==1)=false:=by simp;omega
  have e2:(s.kind==2)=false:=by simp;omega
  have e3:(s.kind==3)=false:=by simp;omega
  have e4:(s.kind==4)=false:=by simp;omega
  have e5:(s.kind==5)=false:=by simp;omega
  have e6:(s.kind==6)=false:=by simp;omega
  have e7:(s.kind==7)=false:=by simp;omega
  have e8:(s.kind==8)=true:=by simp;omega
  have aI:Hid (s.kind=8):=hk
  clear hk hk1 hk2
  have aP:Hid (o=[(⟨#[111,117,116]⟩:ByteArray)]++Sy.ai d s.x++[⟨#[59]⟩]):=HO.out.trans (stT_8 aI.out)
  have hno:ws.length+(1+((Sy.ai d s.x).length+1))≤1000000:=by rw [aP.out] at hn;simp only [List.length_append,List.length_cons,List.length_nil] at hn;omega
  have lX:Hid (Sy.dR d s.x):=hok.out.2.2.1 (by have:=aI.out;omega)
  have hend:=yF B M P Bs d fC hx s.x xa xc [(⟨#[111,117,116]⟩:ByteArray)] (w.heap.size+1) 1 ws (w.alloc (dC s xa xc ba bc ea ec)) (by simp) lX HX0 (cz.out.grown aY.out) (hM.out.grown aY.out) hs0 hno
  rw [← aP.out] at hend
  go_enter Tryz.func56,Tryz.ntmps56
  go_wp2_with fail
  refine hend.mono ?_
  rintro e w1 hp
  have HP:Hid (bV P Bs (.map (some M)) ws o w e w1):=⟨hp.1,hp.2.1,jO.out.trans hp.2.2⟩
  obtain rfl:=hp.1
  clear hp hend
  go_wp2
  go_end0
  exact HP.out
 ·have e1:(s.kind==1)=false:=by simp;omega
  have e2:(s.kind==2)=false:=by simp;omega
  have e3:(s.kind==3)=false:=by simp;omega
  have e4:(s.kind==4)=false:=by simp;omega
  have e5:(s.kind==5)=false:=by simp;omega
  have e6:(s.kind==6)=false:=by simp;omega
  have e7:(s.kind==7)=false:=by simp;omega
  have e8:(s.kind==8)=false:=by simp;omega
  have e9:(s.kind==9)=true:=by simp;omega
  have aI:Hid (s.kind=9):=hk
  clear hk hk1 hk2
  have aP:Hid (o=[(⟨#[100,111]⟩:ByteArray)]++Sy.ai d s.x++[⟨#[59]⟩]):=HO.out.trans (stT_9 aI.out)
  have hno:ws.length+(1+((Sy.ai d s.x).length+1))≤1000000:=by rw [aP.out] at hn;simp only [List.length_append,List.length_cons,List.length_nil] at hn;omega
  have lX:Hid (Sy.dR d s.x):=hok.out.2.2.1 (by have:=aI.out;omega)
  have hend:=yF B M P Bs d fC hx s.x xa xc [(⟨#[100,111]⟩:ByteArray)] (w.heap.size+1) 1 ws (w.alloc (dC s xa xc ba bc ea ec)) (by simp) lX HX0 (cz.out.grown aY.out) (hM.out.grown aY.out) hs0 hno
  rw [← aP.out] at hend
  go_enter Tryz.func56,Tryz.ntmps56
  go_wp2_with fail
  refine hend.mono ?_
  rintro e w1 hp
  have HP:Hid (bV P Bs (.map (some M)) ws o w e w1):=⟨hp.1,hp.2.1,jO.out.trans hp.2.2⟩
  obtain rfl:=hp.1
  clear hp hend
  go_wp2
  go_end0
  exact HP.out
theorem P8 (B M P Bs:Nat)(hL:Lay B M P Bs):∀ d:Nat,yE B M P Bs d
 | 0=>fun _ _ _ _ _ _ _ _ _ _ hok=>hok.elim
 | d+1=>aap B M P Bs d hL (P8 B M P Bs hL d)
end Go.Proofs.YtolfleeidpeomaaGreatDoor
