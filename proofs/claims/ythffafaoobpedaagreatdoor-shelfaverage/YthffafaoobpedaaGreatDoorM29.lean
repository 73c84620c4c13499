/- The walk of tasks. -/
import Derived.Test.YthffafaoobpedaaGreatDoorM18
import Derived.Test.YthffafaoobpedaaGreatDoorM28
import Derived.Test.YthffafaoobpedaaGreatDoorM17
set_option maxRecDepth 100000
set_option maxHeartbeats 1000000
namespace Go.Proofs.YthffafaoobpedaaGreatDoor.Vw
open Go.RowKit Vf Vm
theorem Tryz.info3:(Tryz.prog.info? 3).map (fun i=>(i.zero,i.size,i.bytes))=some (some (.int .i64 0),1,8):=by kernel_rfl
def dF (us:List Un)(k:Nat):List Nat:=(List.range k).filter fun i=>decide (∃ u,us[i]?=some u∧u.kind=4)
theorem Yr {us:List Un}{k:Nat}{u:Un}(h:us[k]?=some u):dF us (k+1)=if u.kind=4 then dF us k ++ [k] else dF us k:=by
 unfold dF
 rw [List.range_succ,List.filter_append]
 by_cases e:u.kind=4
 ·simp [h,e]
 ·simp [h,e]
theorem Nn (us:List Un)(k:Nat):(dF us k).length≤k:=by
 have:=List.length_filter_le (fun i=>decide (∃ u,us[i]?=some u∧u.kind=4)) (List.range k)
 simpa [dF] using this
abbrev oz (l:List Nat):List Value:=l.map fun n:Nat=>.int .i64 (n:Int)
def wo (us:List Un)(w:World)(k:Nat)(vl:Value)(wr:World):Prop:=k≤us.length∧Below w.heap.size w wr∧wr.ownsRow w.heap.size 3 1 vl (dF us k).length (oz (dF us k))
theorem FL (c:Cx)(ab:Option Addr)(cb:Nat)(w:World)(hcx:Hid (lY c w))(hB:c.B≤w.heap.size) :
  Calls Tryz.prog 18 #[.agg #[.slice ab c.m.boxes.length cb,.slice c.au c.m.units.length c.cu]] w fun e w'=>∃ vl,e=.returned vl∧wo c.m.units w c.m.units.length vl w':=by
 obtain ⟨i0,hi,hz0,hz1,hz2⟩:=info_parts Tryz.info3
 have dx:=hcx.out.few
 have HST:Hid (wo c.m.units w 0 (.slice none 0 0) (w.alloc (.cells #[.slice ab c.m.boxes.length cb,.slice c.au c.m.units.length c.cu] 38))):=⟨Nat.zero_le _,(Below.refl _ w).alloc (Nat.le_refl _) _,⟨rfl,.inl ⟨rfl,rfl⟩⟩⟩
 go_enter Tryz.func18,Tryz.ntmps18
 go_wp2
 go_loopw [3,9] (fun vl v wr=>∃ k:Nat,v=.int .i64 k∧wo c.m.units w k vl wr) (fun _ v _=>c.m.units.length - (intOf v).toNat)
 case atStart=>exact ⟨0,rfl,HST.out⟩
 case round =>
  obtain ⟨k,rfl,hk,hb,hown⟩:=hrel
  have HB:=Sb.hide hb
  have HO:=Sb.hide hown
  have hbz:=hb.size
  clear hb hown HST
  by_cases hlt:k < c.m.units.length
  ·obtain ⟨u,hu⟩:∃ u,c.m.units[k]?=some u:=⟨_,List.getElem?_eq_getElem hlt⟩
   obtain ⟨ub,ky,al,cl,mf,hub,_,x0,x1,x2,x3,x4,x5⟩:=hcx.out.units k u hu
   have cb':∀ j,wr.cell? ⟨ub,j,none⟩=w.cell? ⟨ub,j,none⟩:=fun j=>aS (HB.out.block ub (by omega)) _
   rw [← cb'] at x0 x1 x2 x3 x4 x5
   have HS:=Sb.hide (Yr hu)
   have htl:=Nn c.m.units k
   obtain ⟨ml,bU⟩:∃ m,m=c.m.units.length:=⟨_,rfl⟩
   rw [mf,← bU]
   rw [← bU] at hlt dx
   have jN:=Sb.hide bU
   have n0:(0:Int)≤(k:Int):=by omega
   have n1:(k:Int) < (ml:Int):=by omega
   have Eo:ub < wr.heap.size:=by omega
   have hne:¬ wr.heap.size=ub:=by omega
   have hne2:¬ ub=wr.heap.size:=by omega
   clear bU mf cb' hu
   by_cases h4:u.kind=4
   ·have e4:(u.kind == 4)=true:=by simpa using h4
    have HS2:Hid (dF c.m.units (k+1)=dF c.m.units k ++ [k]):=by unfold Hid;rw [HS.out,if_pos h4]
    have HRW:Hid (((wr.alloc (bf c k u al cl)).alloc (.cells #[.int .i64 (k:Int)] 3)).ownsRow w.heap.size 3 1 u3 (dF c.m.units k).length (oz (dF c.m.units k))):=(HO.out.alloc _).alloc _
    clear h4
    go_wp2_with (at_builtin;refine rW rfl (.tmp 17) (.tmp 19) 27 rfl w.heap.size 3 i0 (.int .i64 0) 1 8 Tryz.underlying27 hi hz0 hz1 hz2 rfl (by decide) u3 (dF c.m.units k).length (oz (dF c.m.units k)) rfl HRW.out ⟨(wr.alloc (bf c k u al cl)).heap.size,0,none⟩ 1 1 [.int .i64 (k:Int)] (by rw [show (wr.alloc (bf c k u al cl)).heap.size=wr.heap.size+1 by simp];rfl) rfl (jL (wr.alloc (bf c k u al cl)) _ _) (jM rfl) (by decide) (by unfold maxLen;omega) (by omega) (by simp;omega) ?_)
    intro R4 cap4 w4 bG hg4 bH
    have dI:Hid (wo c.m.units w (k+1) (.slice (some ⟨R4,0,none⟩) ((dF c.m.units k).length+1) cap4) w4):=by
     refine ⟨by have:=jN.out;omega,((HB.out.alloc hbz _).alloc (by simp;omega) _).grown hg4 (by simp;omega) (fun b hb=>(HO.out.lt b hb).1),?_⟩
     rw [HS2.out,List.length_append,show oz (dF c.m.units k ++ [k])=oz (dF c.m.units k) ++ [.int .i64 (k:Int)] by simp]
     exact bG
    clear bG hg4 bH
    go_wp2
    go_roundw
    case rel=>exact ⟨k+1,by go_num,dI.out⟩
    case measure=>simp [intOf];omega
   ·have e4:(u.kind == 4)=false:=by simpa using h4
    have HS2:Hid (dF c.m.units (k+1)=dF c.m.units k):=by unfold Hid;rw [HS.out,if_neg h4]
    clear h4
    go_wp2
    go_roundw
    case rel=>exact ⟨k+1,by go_num,by have:=jN.out;omega,HB.out.alloc hbz _,by rw [HS2.out];exact HO.out.alloc _⟩
    case measure=>simp [intOf];omega
  ·have n1:¬ (k:Int) < (c.m.units.length:Int):=by omega
   have ek:k=c.m.units.length:=by omega
   subst ek
   go_wp2
   go_ret
   exact ⟨_,rfl,hk,HB.out,HO.out⟩
structure jB (B:Nat) (w:World) (fs:List (List Int)) (a:Option Addr) (fa:Nat→Option Addr) (fc:Nat→Nat):Prop where
 few:fs.length≤9223372036854775806
 rows:∀ (i:Nat) f,fs[i]?=some f→∃ b off,a=some ⟨b,off,none⟩∧b < B∧w.cell? ⟨b,off+i,none⟩=some (.slice (fa i) f.length (fc i))
 words:∀ (i:Nat) f,fs[i]?=some f→f.length≤9223372036854775806∧∀ (j:Nat) v,f[j]?=some v→∃ b off,fa i=some ⟨b,off,none⟩∧b < B∧w.cell? ⟨b,off+j,none⟩=some (.int .i64 v)
theorem jB.low {B:Nat}{w w':World}{fs:List (List Int)}{a:Option Addr}{fa:Nat→Option Addr}{fc:Nat→Nat}(h:jB B w fs a fa fc)(hk:Low B w w'):jB B w' fs a fa fc :=
 ⟨h.few,fun i f hf=>by
  obtain ⟨b,off,e,hb,hc⟩:=h.rows i f hf
  exact ⟨b,off,e,hb,(aS (hk b hb) _).trans hc⟩,fun i f hf=>⟨(h.words i f hf).1,fun j v hv=>by
  obtain ⟨b,off,e,hb,hc⟩:=(h.words i f hf).2 j v hv
  exact ⟨b,off,e,hb,(aS (hk b hb) _).trans hc⟩⟩⟩
def oD:List Bx→List (List Int)→Bool
 | b :: bs,f :: fs=>(b.ty == 2 && !f.all kN) || oD bs fs
 | _,_=>false
def tT (bs:List Bx)(fs:List (List Int)):Int:=if fs.length=bs.length then (if oD bs fs=true then 9 else 0) else 5
theorem drop_at {α:Type}{l:List α}{k:Nat}{x:α}(h:l[k]?=some x):l.drop k=x :: l.drop (k+1):=by
 have hlt:=(List.getElem?_eq_some_iff.1 h).1
 rw [List.drop_eq_getElem_cons hlt]
 rw [List.getElem?_eq_getElem hlt] at h
 cases h;rfl
theorem Yt {bs:List Bx}{fs:List (List Int)}(h:oD bs fs=false):∀ (i:Nat) b f,bs[i]?=some b→fs[i]?=some f→b.ty=2→f.all kN=true:=by
 induction bs generalizing fs with
 | nil=>intro i b f hb;cases hb
 | cons b0 bs ih =>
  cases fs with
  | nil=>intro i b f _ hf;cases hf
  | cons f0 fs =>
   simp only [oD,Bool.or_eq_false_iff] at h
   intro i b f hb hf h2
   cases i with
   | zero =>
    cases hb;cases hf
    have:=h.1
    simp [h2] at this
    simpa using this
   | succ i=>exact ih h.2 i b f hb hf h2
def Bn (w:World)(bs:List Bx)(fs:List (List Int))(r:Int)(k:Nat)(wr:World):Prop:=k≤bs.length∧Below w.heap.size w wr∧r=if oD (bs.drop k) (fs.drop k)=true then 9 else 0
theorem Yu (bs:List Bx)(ab:Option Addr)(cb B:Nat)(fs:List (List Int))(a:Option Addr)(cap:Nat)(fa:Nat→Option Addr)(fc:Nat→Nat)(w:World)(hbx:Hid (uV B w bs ab))(hbl:bs.length≤9223372036854775807)(fB:Hid (jB B w fs a fa fc))(hB:B≤w.heap.size)(r:Int)(hr:Hid (r=tT bs fs)) :
  Calls Tryz.prog 19 #[.slice ab bs.length cb,.slice a fs.length cap] w fun e w'=>e=.returned (.int .i64 r)∧Below w.heap.size w w':=by
 by_cases hl:fs.length=bs.length
 ·have HR:Hid (r=if oD bs fs=true then 9 else 0):=by unfold Hid;rw [hr.out,tT,if_pos hl]
  have HST:Hid (Bn w bs fs r 0 w):=⟨Nat.zero_le _,.refl _ _,HR.out⟩
  have dx:=fB.out.few
  have HL:=Sb.hide hl
  rw [hl]
  rw [hl] at dx
  clear hr hl HR
  go_enter Tryz.func19,Tryz.ntmps19
  go_wp2
  go_loopw [14] (fun v wr=>∃ k:Nat,v=.int .i64 k∧Bn w bs fs r k wr) (fun v _=>bs.length - (intOf v).toNat)
  case atStart=>exact ⟨0,rfl,HST.out⟩
  case round =>
   obtain ⟨k,rfl,hk,hb,Np⟩:=hrel
   have HB:=Sb.hide hb
   have Bo:=Sb.hide Np
   have hbz:=hb.size
   clear hb Np HST
   by_cases hlt:k < bs.length
   ·obtain ⟨b,hb⟩:∃ b,bs[k]?=some b:=⟨_,List.getElem?_eq_getElem hlt⟩
    obtain ⟨f,hf⟩:∃ f,fs[k]?=some f:=⟨_,List.getElem?_eq_getElem (by have:=HL.out;omega)⟩
    obtain ⟨_,_,bb,adL,rfl,hbb,x0,x1⟩:=hbx.out k b hb
    obtain ⟨fb,FT,rfl,Yv,y0⟩:=fB.out.rows k f hf
    obtain ⟨hfl,hfw⟩:=fB.out.words k f hf
    have Nq:∀ j,wr.cell? ⟨bb,j,none⟩=w.cell? ⟨bb,j,none⟩:=fun j=>aS (HB.out.block bb (by omega)) _
    have Nr:∀ j,wr.cell? ⟨fb,j,none⟩=w.cell? ⟨fb,j,none⟩:=fun j=>aS (HB.out.block fb (by omega)) _
    rw [← Nq] at x0 x1
    rw [← Nr] at y0
    have HDR:Hid (oD (bs.drop k) (fs.drop k)=((b.ty == 2 && !f.all kN) || oD (bs.drop (k+1)) (fs.drop (k+1)))):=by
     unfold Hid
     rw [drop_at hb,drop_at hf]
     rfl
    have Yw:Hid (∀ (W:World),Below w.heap.size w W→∀ (j:Nat) v,f[j]?=some v→∃ b off,fa k=some ⟨b,off,none⟩∧W.cell? ⟨b,off+j,none⟩=some (.int .i64 v)):=fun W hW j v hv=>by
     obtain ⟨b,off,e,hb,hc⟩:=hfw j v hv
     exact ⟨b,off,e,(aS (hW.block b (by omega)) _).trans hc⟩
    have hne1:¬ wr.heap.size=fb:=by omega
    have hne2:¬ fb=wr.heap.size:=by omega
    have Sg:¬ wr.heap.size=bb:=by omega
    have Si:¬ bb=wr.heap.size:=by omega
    obtain ⟨ml,bU⟩:∃ m,m=bs.length:=⟨_,rfl⟩
    rw [← bU] at hlt dx hbl ⊢
    have jN:=Sb.hide bU
    have n0:(0:Int)≤(k:Int):=by omega
    have n1:(k:Int) < (ml:Int):=by omega
    have HB2:Hid (Below w.heap.size w (wr.alloc (.cells #[.int .i64 b.ty,.int .i64 b.cap] 73))):=HB.out.alloc hbz _
    have y1:(wr.alloc (.cells #[.int .i64 b.ty,.int .i64 b.cap] 73)).cell? ⟨fb,FT+k,none⟩=some (.slice (fa k) f.length (fc k)):=(aS (Below.heap_alloc _ _ _ (by omega)) _).trans y0
    obtain ⟨fv,FU⟩:∃ v,v=Value.slice (fa k) f.length (fc k):=⟨_,rfl⟩
    have Yx:=Sb.hide FU
    rw [← FU] at y0 y1
    clear bU hb hf hfw Nq Nr fB hbx FU
    by_cases h2:b.ty=2
    ·have e2:(b.ty == 2)=true:=by simpa using h2
     obtain ⟨al,hal⟩:∃ x,x=f.all kN:=⟨_,rfl⟩
     have nk:=Sb.hide hal
     clear h2 hal
     go_wp2_with fail
     rw [Yx.out]
     refine (Yq f (fa k) (fc k) _ (Sb.hide (Yw.out _ HB2.out)) hfl al nk).mono ?_
     rintro e w2 ⟨rfl,rfl⟩
     cases al with
     | true =>
      have dI:Hid (Bn w bs fs r (k+1) (wr.alloc (.cells #[.int .i64 b.ty,.int .i64 b.cap] 73))):=⟨by have:=jN.out;omega,HB2.out,by rw [Bo.out,HDR.out,← nk.out];simp⟩
      go_wp2
      go_roundw
      case rel=>exact ⟨k+1,by go_num,dI.out⟩
      case measure=>simp [intOf];omega
     | false =>
      have HF:Hid (r=9):=by unfold Hid;rw [Bo.out,HDR.out,← nk.out,e2];rfl
      go_wp2
      go_ret
      exact ⟨by rw [HF.out];rfl,HB2.out⟩
    ·have e2:(b.ty == 2)=false:=by simpa using h2
     have dI:Hid (Bn w bs fs r (k+1) (wr.alloc (.cells #[.int .i64 b.ty,.int .i64 b.cap] 73))):=⟨by have:=jN.out;omega,HB2.out,by rw [Bo.out,HDR.out,e2];simp⟩
     clear h2
     go_wp2
     go_roundw
     case rel=>exact ⟨k+1,by go_num,dI.out⟩
     case measure=>simp [intOf];omega
   ·have n1:¬ (k:Int) < (bs.length:Int):=by omega
    have HF:Hid (r=0):=by
     unfold Hid
     rw [Bo.out,List.drop_eq_nil_of_le (by omega)]
     rfl
    go_wp2
    go_ret
    exact ⟨by rw [HF.out];rfl,HB.out⟩
 ·have HR:Hid (r=5):=by unfold Hid;rw [hr.out,tT,if_neg hl]
  have e1:((fs.length:Int) != (bs.length:Int))=true:=by simp;omega
  have dx:=fB.out.few
  clear hl hr
  go_enter Tryz.func19,Tryz.ntmps19
  go_wp2
  go_ret
  exact ⟨by rw [HR.out];rfl,.refl _ _⟩
theorem jC {w:World}{B e size n g:Nat}{v:Value}{xs:List Value}(h:w.ownsRow B e size v n xs)(hg:v.ownBlock=some g):∃ cur,w.heap[g]?=some (.cells cur e (0,0)):=by
 rcases h.2 with ⟨rfl,_⟩ | ⟨g',cap,cur,rfl,_,hh,_⟩
 ·cases hg
 ·simp [Value.ownBlock] at hg
  subst hg
  exact ⟨cur,hh⟩
theorem yK {w:World}{B e n:Nat}{va:Option Addr}{vc:Nat}{xs:List Value}(h:w.ownsRow B e 1 (.slice va n vc) n xs){k:Nat}{u:Value}(hk:xs[k]?=some u):∃ g,va=some ⟨g,0,none⟩∧w.cell? ⟨g,k,none⟩=some u:=by
 rcases h.2 with ⟨e1,h0⟩ | ⟨g,cap,cur,e1,_⟩
 ·have hl:=h.1
  rw [h0] at hl
  have hx:xs=[]:=List.eq_nil_of_length_eq_zero (by simpa using hl)
  rw [hx] at hk;cases hk
 ·have e2:=e1
  simp at e2
  refine ⟨g,e2.1,?_⟩
  have:=h.cells (g:=g) (by rw [e1];rfl) k _ hk
  rw [rV] at this
  simpa using this
theorem Yy (w:World):Sem.run Tryz.prog (binOp BinOp.eql 22 (.slice none 0 0) (.slice none 0 0)) w=.ok (.bool true) w:=by kernel_rfl
theorem qR {w:World}{B C e size n:Nat}{v:Value}{xs:List Value}(h:w.ownsRow C e size v n xs)(hB:B≤C):w.ownsRow B e size v n xs:=by
 refine ⟨h.1,?_⟩
 rcases h.2 with h2 | ⟨g,cap,cur,hv,hg,r⟩
 ·exact .inl h2
 ·exact .inr ⟨g,cap,cur,hv,by omega,r⟩
theorem mE {w:World}{B e size n:Nat}{v:Value}{xs:List Value}(h:w.ownsRow B e size v n xs):∃ a c,v=.slice a n c:=by
 rcases h.2 with ⟨rfl,h0⟩ | ⟨g,cap,cur,rfl,_⟩
 ·rw [h0];exact ⟨_,_,rfl⟩
 ·exact ⟨_,_,rfl⟩
theorem Ai (ws:List Int):∀ v ∈ ints ws,v.oneCell'=true:=by
 intro v hv
 simp only [ints,List.mem_map] at hv
 obtain ⟨x,_,rfl⟩:=hv
 rfl
theorem JI (vO:Value)(l:List Int)(w:World)(h:Hid (w.ownsRow 0 2 1 vO l.length (ints l)))(hl:l.length≤1000000) :
  Calls Tryz.prog 76 #[vO] w fun e w'=>∃ v,e=.returned v∧w'.ownsRow w.heap.size 2 1 v l.length (ints l)∧Below w.heap.size w w':=by
 obtain ⟨i0,hi,hz0,hz1,hz2⟩:=info_parts Sb.Tryz.rT
 rcases h.out.2 with ⟨rfl,h0⟩ | ⟨g,cap,cur,rfl,_,hh,h1,h2,h3,h4⟩
 ·have HL:=Sb.hide h0
  clear h0
  have hnn:=Yy w
  go_enter Tryz.func76,Tryz.ntmps76
  go_wp2
  go_ret
  exact ⟨_,rfl,⟨h.out.1,.inl ⟨rfl,HL.out⟩⟩,.refl _ _⟩
 ·have hnn:=Sb.not_nil g l.length cap w
  have HO:Hid ((w.alloc (.cells #[] 2)).ownsRow w.heap.size 2 1 (.slice (some ⟨w.heap.size,0,none⟩) 0 0) 0 []):=⟨rfl,.inr ⟨w.heap.size,0,#[],rfl,Nat.le_refl _,heap_alloc_new w _,Nat.le_refl _,Nat.zero_le _,rfl,rfl⟩⟩
  have HN:Hid (∀ j u,(ints l)[j]?=some u→(w.alloc (.cells #[] 2)).cell? ((⟨g,0,none⟩:Addr).add j)=some u):=(h.out.alloc (.cells #[] 2)).cells (g:=g) rfl
  have HL:Hid ((ints l).length=l.length * 1):=by unfold Hid;simp
  obtain ⟨n,hn⟩:∃ n,n=l.length:=⟨_,rfl⟩
  have HNL:=Sb.hide hn
  rw [← hn] at hl hnn HL ⊢
  clear hn hh h1 h2 h3 h4
  go_enter Tryz.func76,Tryz.ntmps76
  go_wp2_with (at_builtin;refine wpList_append_own _ rfl _ _ 22 rfl w.heap.size 2 i0 (.int .i64 0) 1 8 Tryz.underlying22 hi hz0 hz1 hz2 rfl (by decide) _ _ _ rfl HO.out ⟨g,0,none⟩ n cap (ints l) rfl HL.out HN.out (Ai l) (by unfold maxLen;omega) (by omega) (by simp) ?_;intro v' w3 hown hgrow hz)
  have HW:Hid (w3.ownsRow w.heap.size 2 1 v' n (ints l)):=by
   unfold Hid
   simpa using hown
  have hg2:(w.alloc (.cells #[] 2)).grownBy w3 (some w.heap.size):=hgrow
  have HB:Hid (Below w.heap.size w w3):=((Below.refl _ w).alloc (Nat.le_refl _) _).grown hg2 (by simp) (fun k hk=>by simp at hk;omega)
  clear hown hgrow hz hg2
  go_wp2
  go_ret
  exact ⟨v',rfl,HW.out,HB.out⟩
theorem Ns {w:World}{b:Nat}(h:w.heap[b]?=some (.cells #[.int .i64 0,.int .i64 0,.int .i64 0,.slice none 0 0] 91)):(w.cell? ⟨b,0,none⟩=some (.int .i64 0)∧w.cell? ⟨b,1,none⟩=some (.int .i64 0)∧w.cell? ⟨b,2,none⟩=some (.int .i64 0)∧w.cell? ⟨b,3,none⟩=some (.slice none 0 0))∧∀ j,w.frozen? ⟨b,j,none⟩=false:=by simp [World.cell?,World.frozen?,h]
section
variable {β:Type} (E:Env β) (X:fQ β) (c:Cx) (vB ev:Value) (o T:Nat) (L:az) (P:Nat→Nat) (w:World) (t:Tk) (x:β) (vR vO:Value) (H:Hid (St E c vB ev o T L P w t x vR vO))
include H
abbrev Nt (s q tr:Nat) (v:Value):Value:=.agg #[.int .i64 s,.int .i64 q,.int .i64 tr,v]
theorem Yz (hX:Hid (lv E X c vB))(hs:Hid (t.over=0→∃ f rs u i,lF c t f rs u i))(ho:t.out.length≤1000000) :
  Calls Tryz.prog 39 #[.pointer (some ⟨T,0,none⟩)] w fun e w'=>∃ v,e=.returned (Nt (stat X c.m t x).1 (stat X c.m t x).2 t.trap v)∧w'.ownsRow w.heap.size 2 1 v t.out.length (ints t.out)∧Below w.heap.size w w':=by
 obtain ⟨s,hs1⟩:∃ s,s=(stat X c.m t x).1:=⟨_,rfl⟩
 obtain ⟨q,hq1⟩:∃ s,s=(stat X c.m t x).2:=⟨_,rfl⟩
 rw [← hs1,← hq1]
 have iI:=Sb.hide hs1
 have qM:=Sb.hide hq1
 have jl:=lt_of_block H.out.tk.blk
 clear hs1 hq1
 go_enter Tryz.func39,Tryz.ntmps39
 go_wp2_with fail
 have hb0:Below w.heap.size w (w.alloc (.cells #[.int .i64 0,.int .i64 0,.int .i64 0,.slice none 0 0] 91)):=(Below.refl _ w).alloc (Nat.le_refl _) _
 have hzb:(w.alloc (.cells #[.int .i64 0,.int .i64 0,.int .i64 0,.slice none 0 0] 91)).heap[w.heap.size]?=some (.cells #[.int .i64 0,.int .i64 0,.int .i64 0,.slice none 0 0] 91):=heap_alloc_new w _
 have HB0:=Sb.hide hb0
 have FV:=Sb.hide hzb
 have hz0:(w.alloc (.cells #[.int .i64 0,.int .i64 0,.int .i64 0,.slice none 0 0] 91)).heap.size=w.heap.size+1:=by simp
 clear hb0 hzb
 generalize w.alloc (.cells #[.int .i64 0,.int .i64 0,.int .i64 0,.slice none 0 0] 91)=W0 at *
 refine (KZ E X c vB ev o T L P _ t x vR vO (Sb.hide (H.out.below HB0.out)) hX hs).mono ?_
 rw [← iI.out,← qM.out]
 rintro e w1 ⟨rfl,hb1⟩
 have HB1:Hid (Below w.heap.size w w1):=HB0.out.trans (hb1.mono (by omega))
 have HZ1:Hid (w1.heap[w.heap.size]?=some (.cells #[.int .i64 0,.int .i64 0,.int .i64 0,.slice none 0 0] 91)):=(hb1.block _ (by omega)).trans FV.out
 have HS:=Sb.hide (H.out.below HB1.out)
 have d:=bP HS.out.tk.blk
 have d5:=d.2.2.2.2.2.1
 have d7:=d.2.2.2.2.2.2.2.1
 have hz1:=hb1.size
 have hne1:¬ w.heap.size=T:=by omega
 have hne2:¬ T=w.heap.size:=by omega
 clear hb1 d
 have YA:w1.frozen? ⟨w.heap.size,0,none⟩=false∧w1.frozen? ⟨w.heap.size,1,none⟩=false∧w1.frozen? ⟨w.heap.size,2,none⟩=false∧w1.frozen? ⟨w.heap.size,3,none⟩=false:=by simp [World.frozen?,HZ1.out]
 go_wp2_with fail
 go_region_held3 (fun w'=>w'.cell? ⟨T,5,none⟩=some vO∧w'.cell? ⟨T,7,none⟩=some (.int .i64 t.trap)) (go_keep) ((go_at_call 76;refine (JI vO t.out _ (Sb.hide (by exact HS.out.tk.out)) ho).mono ?_;rintro e w2 ⟨v,rfl,hown,hb2⟩;obtain ⟨va,vc,rfl⟩:=mE hown;have HO:Hid (w2.ownsRow w1.heap.size 2 1 (.slice va t.out.length vc) t.out.length (ints t.out)):=hown;have HB2:Hid (Below w1.heap.size w1 w2):=⟨hb2.os,hb2.tape,hb2.output,hb2.size,hb2.block⟩;have d5:w2.cell? ⟨T,5,none⟩=some vO:=(hb2.cell (p:=⟨T,5,none⟩) (by show T < _;have:=HB1.out.size;simp;omega)).trans d5;have d7:w2.cell? ⟨T,7,none⟩=some (.int .i64 t.trap):=(hb2.cell (p:=⟨T,7,none⟩) (by show T < _;have:=HB1.out.size;simp;omega)).trans d7;have z2:w2.heap[w.heap.size]?=some (.cells #[.int .i64 0,.int .i64 0,.int .i64 0,.slice none 0 0] 91):=(hb2.block _ (by have:=HB0.out.size;simp;omega)).trans HZ1.out;have HZ2:=Sb.hide z2;have k2:=(Ns z2).1;have f2:=(Ns z2).2;clear hown hb2 z2))
 clear YA
 have tu:Hid (Below w.heap.size w ((((w2.setCell ⟨w.heap.size,0,none⟩ (.int .i64 s)).setCell ⟨w.heap.size,1,none⟩ (.int .i64 q)).setCell ⟨w.heap.size,2,none⟩ (.int .i64 t.trap)).setCell ⟨w.heap.size,3,none⟩ (.slice va t.out.length vc))):=by
  have hb:Below w.heap.size w w2:=HB1.out.trans (HB2.out.mono HB1.out.size)
  exact (((hb.setCell (p:=⟨w.heap.size,0,none⟩) (Nat.le_refl _) _).setCell (p:=⟨w.heap.size,1,none⟩) (Nat.le_refl _) _).setCell (p:=⟨w.heap.size,2,none⟩) (Nat.le_refl _) _).setCell (p:=⟨w.heap.size,3,none⟩) (Nat.le_refl _) _
 have YB:Hid (((((w2.setCell ⟨w.heap.size,0,none⟩ (.int .i64 s)).setCell ⟨w.heap.size,1,none⟩ (.int .i64 q)).setCell ⟨w.heap.size,2,none⟩ (.int .i64 t.trap)).setCell ⟨w.heap.size,3,none⟩ (.slice va t.out.length vc)).ownsRow w.heap.size 2 1 (.slice va t.out.length vc) t.out.length (ints t.out)):=by
  have h2:w2.ownsRow w.heap.size 2 1 (.slice va t.out.length vc) t.out.length (ints t.out):=qR HO.out HB1.out.size
  refine bW h2 (fun b hb=>?_)
  have hbl:=(HO.out.lt b hb).1
  have hne:b≠w.heap.size:=by have:=HB0.out.size;omega
  rw [Below.heap_setCell _ ⟨w.heap.size,3,none⟩ _ _ hne,Below.heap_setCell _ ⟨w.heap.size,2,none⟩ _ _ hne,Below.heap_setCell _ ⟨w.heap.size,1,none⟩ _ _ hne,Below.heap_setCell _ ⟨w.heap.size,0,none⟩ _ _ hne]
 go_wp2
 have hX:((((w2.setCell ⟨w.heap.size,0,none⟩ (.int .i64 s)).setCell ⟨w.heap.size,1,none⟩ (.int .i64 q)).setCell ⟨w.heap.size,2,none⟩ (.int .i64 t.trap)).setCell ⟨w.heap.size,3,none⟩ (.slice va t.out.length vc)).heap[w.heap.size]?=some (.cells #[.int .i64 s,.int .i64 q,.int .i64 t.trap,.slice va t.out.length vc] 91):=by
  simp only [World.setCell,Array.getElem?_modify,if_true,HZ2.out,Option.map_some]
  rfl
 refine bodyPost_ret (v:=Nt s q t.trap (.slice va t.out.length vc)) ?_ rfl ⟨_,rfl,YB.out,tu.out⟩
 generalize (((w2.setCell ⟨w.heap.size,0,none⟩ (.int .i64 s)).setCell ⟨w.heap.size,1,none⟩ (.int .i64 q)).setCell ⟨w.heap.size,2,none⟩ (.int .i64 t.trap)).setCell ⟨w.heap.size,3,none⟩ (.slice va t.out.length vc)=W4 at *
 have g:(W4.cell? ⟨w.heap.size,0,none⟩=some (.int .i64 s)∧W4.cell? ⟨w.heap.size,1,none⟩=some (.int .i64 q)∧W4.cell? ⟨w.heap.size,2,none⟩=some (.int .i64 t.trap)∧W4.cell? ⟨w.heap.size,3,none⟩=some (.slice va t.out.length vc)):=by simp [World.cell?,hX]
 obtain ⟨g0,g1,g2,g3⟩:=g
 simp [results,Tryz.results39,go_sem,g0,g1,g2,g3]
end
end Go.Proofs.YthffafaoobpedaaGreatDoor.Vw
