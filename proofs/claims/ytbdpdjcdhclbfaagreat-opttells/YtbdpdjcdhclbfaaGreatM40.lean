/- The document's answer,chapter 7,walked: WHAT ITS Comes ANSWERS. -/
import Derived.Test.YtbdpdjcdhclbfaaGreatM32
import Derived.Test.YtbdpdjcdhclbfaaGreatM28
import Derived.Test.YtbdpdjcdhclbfaaGreatM39
import Derived.Test.YtbdpdjcdhclbfaaGreatM25
set_option maxRecDepth 100000
set_option maxHeartbeats 8000000
namespace Go.Proofs.YtbdpdjcdhclbfaaGreat
open Go.RowKit
structure xq (m:Vf.Md) (ab au:Option Addr) (cb cu:Nat) (w W:World) (l:List Bool):Prop where
 grown:w.grownBy W none
 mb:W.heap[w.heap.size]?=some (uM m ab au cb cu)
 row:BR W (w.heap.size+1) (.slice (some ⟨w.heap.size+1,0,none⟩) m.units.length m.units.length) l
 len:l.length=m.units.length
theorem xq.next {m:Vf.Md}{ab au:Option Addr}{cb cu:Nat}{w W W':World}{l:List Bool}(h:xq m ab au cb cu w W l)(hg:W.grownBy W' none):xq m ab au cb cu w W' l :=
 ⟨aJ h.grown hg,(aC hg (lt_of_block h.mb)).trans h.mb,vT h.row hg,h.len⟩
theorem xq.new {m:Vf.Md}{ab au:Option Addr}{cb cu:Nat}{w W:World}{l:List Bool}(h:xq m ab au cb cu w W l)(o:Obj):xq m ab au cb cu w (W.alloc o) l:=h.next (ai (World.grownBy.refl _ _) _)
theorem xq.set {m:Vf.Md}{ab au:Option Addr}{cb cu:Nat}{w W:World}{l:List Bool}(h:xq m ab au cb cu w W l)(x:Nat):xq m ab au cb cu w (W.setCell ⟨w.heap.size+1,x,none⟩ (.bool true)) (l.set x true) :=
 ⟨af h.grown (by omega) _ _,(Below.heap_setCell _ ⟨w.heap.size+1,x,none⟩ _ _ (by show w.heap.size≠w.heap.size+1;omega)).trans h.mb,Ol h.row h.len true,by simpa using h.len⟩
theorem ac7 {us:List Vf.Un}{n j:Nat}(h:j<n)(l:List Bool):Vf.rounds us (n - j) l=Vf.rounds us (n - (j+1)) (Vf.vB us 0 l):=by
 have e:n - j=(n - (j+1))+1:=by omega
 rw[e];rfl
theorem ac8 {us:List Vf.Un}{k:Nat}{u:Vf.Un}(h:us[k]?=some u)(l:List Bool):Vf.vB (us.drop k) k l=Vf.vB (us.drop (k+1)) (k+1) (u.code.foldl (Vf.mark k) l):=by
 obtain⟨hk,rfl⟩:=List.getElem?_eq_some_iff.1 h;rw[List.drop_eq_getElem_cons hk];rfl
theorem ac9 {cs:List Vf.Ins}{x k:Nat}{c:Vf.Ins}(h:cs[x]?=some c)(l:List Bool):(cs.drop x).foldl (Vf.mark k) l=(cs.drop (x+1)).foldl (Vf.mark k) (Vf.mark k l c):=by
 obtain⟨hk,rfl⟩:=List.getElem?_eq_some_iff.1 h;rw[List.drop_eq_getElem_cons hk];rfl
def EA (m:Vf.Md)(l:List Bool)(op a:Int)(k:Nat):Bool:=l[k]?==some true && (Vf.unit m (k:Int)).code.any (fun c=>c.op==op && c.a==a)
theorem ada {n k:Nat}(h:k<n)(f:Nat→Bool):((List.range n).drop k).any f=(f k || ((List.range n).drop (k+1)).any f):=by
 have hk:k<(List.range n).length:=by simpa using h
 rw[List.drop_eq_getElem_cons hk];simp
theorem adb {cs:List Vf.Ins}{x:Nat}{c:Vf.Ins}(h:cs[x]?=some c)(f:Vf.Ins→Bool):(cs.drop x).any f=(f c || (cs.drop (x+1)).any f):=by
 obtain⟨hk,rfl⟩:=List.getElem?_eq_some_iff.1 h;rw[List.drop_eq_getElem_cons hk];rfl
theorem OD (m:Vf.Md)(ab au:Option Addr)(cb cu B:Nat)(i:Nat)(op a:Int)(w:World)(hmd:Hid (aD B w m ab au))(hB:B≤w.heap.size)(hR:Hid (Rt m))(hi:i<m.units.length)(b:Bool)(hb:Hid (b=Vf.Cq m i (op,a))) :
  Calls Tryz.prog 25 #[aT m ab au cb cu,.int .i64 (i:Int),.int .i64 op,.int .i64 a] w fun e w'=>e=.returned (.bool b)∧w.grownBy w' none:=by
 have hmu:=hR.out.units;have hmk:∀ w:World,(Instr.makeSlice 92 (.int .i64 (m.units.length:Int)) (.int .i64 (m.units.length:Int))).run Tryz.prog w=.ok (.slice (some ⟨w.heap.size,0,none⟩) m.units.length m.units.length) (w.alloc (Ja m.units.length)):=fun w=>by
  obtain⟨i0,hi,z0,z1,z2⟩:=info_parts Tryz.Oh;have:=run_makeSlice (P:=Tryz.prog) w 92 4 i0 _ Tryz.underlying92 hi z0 .i64 .i64 (m.units.length:Int) (m.units.length:Int) (by omega) (Int.le_refl _) (by rw[z1];simp;omega) (by rw[z2];omega) (by omega);rw[z1,Int.toNat_natCast] at this;exact this
 obtain⟨W0,hW0⟩:∃ W0:World,(w.alloc (uM m ab au cb cu)).alloc (Ja m.units.length)=W0:=⟨_,rfl⟩;have Jg:Hid (xq m ab au cb cu w W0 (List.replicate m.units.length false)):=by
  rw[← hW0];refine⟨aF _ _ _,(Below.heap_alloc _ _ _ (by simp)).trans (heap_alloc_new w _),?_,by simp⟩;have:=Ul (n:=m.units.length) (zC w (uM m ab au cb cu) (Ja m.units.length)) (by omega);rw[Vf.Uh] at this;exact this
 obtain⟨m0,m1,_⟩:=lF Jg.out.mb;obtain⟨c0,f0,_,l0⟩:=GH Jg.out.row (x:=i) (b:=false) (by rw[List.getElem?_replicate,if_pos hi]);have hil:(i:Int)<(m.units.length:Int):=by omega
 have lw:=lt_of_block Jg.out.mb;go_enter Tryz.func25,Tryz.ntmps25
 go_wp2_with fail
 go_loopw [28] (fun v wr=>∃ (j:Nat) (l:List Bool),v=.int .i64 j∧j≤m.units.length∧xq m ab au cb cu w wr l∧Vf.wU m i=Vf.rounds m.units (m.units.length - j) l) (fun v _=>m.units.length - (intOf v).toNat)
 case atStart=>exact⟨0,_,rfl,Nat.zero_le _,Jg.out.set i,rfl⟩
 case round =>
  clear m0 m1 c0 f0 l0 lw Jg;obtain⟨j,l,rfl,hj,hA,hin⟩:=hrel;have HA:=hide hA;have sF:=hide hin;obtain⟨m0,m1,_⟩:=lF HA.out.mb;have lw:=lt_of_block HA.out.mb;clear hA hin;by_cases hjl:j<m.units.length
  ·have tH:Hid (Vf.wU m i=Vf.rounds m.units (m.units.length - (j+1)) (Vf.vB (m.units.drop 0) 0 l)):=by unfold Hid;rw[sF.out,ac7 hjl];rfl
   have hji:(j:Int)<(m.units.length:Int):=by omega
   clear sF;go_wp2_with fail
   go_loopw [33] (fun v wr=>∃ (k:Nat) (l:List Bool),v=.int .i64 k∧k≤m.units.length∧xq m ab au cb cu w wr l∧Vf.wU m i=Vf.rounds m.units (m.units.length - (j+1)) (Vf.vB (m.units.drop k) k l)) (fun v _=>m.units.length - (intOf v).toNat)
   case atStart=>exact⟨0,l,rfl,Nat.zero_le _,HA.out,tH.out⟩
   case round =>
    clear m0 m1 lw HA tH;obtain⟨k,l,rfl,hk,hA,hin⟩:=hrel;have HA:=hide hA;have sF:=hide hin;have lw:=lt_of_block hA.mb;clear hA hin;by_cases hkl:k<m.units.length
    ·obtain⟨u,hu⟩:∃ u,m.units[k]?=some u:=⟨_,List.getElem?_eq_getElem hkl⟩
     obtain⟨bb,off,al,cl,ac,cc,ha,hbb,jB,u0,u1,u2,u3,u4,u5⟩:=(hmd.out.low (aK HA.out.grown hB)).units k u hu;have HU:=hide hu;have I4:Hid (∀ W,Low B w W→ig B W u al ac cl cc):=fun W hW=>jB.low (fun j hj=>(hW j hj).trans (aK HA.out.grown hB j hj).symm);have tH:Hid (Vf.wU m i=Vf.rounds m.units (m.units.length - (j+1)) (Vf.vB (m.units.drop (k+1)) (k+1) ((u.code.drop 0).foldl (Vf.mark k) l))):=by unfold Hid;rw[sF.out,ac8 hu];rfl
     have hki:(k:Int)<(m.units.length:Int):=by omega
     have hbw:bb<wr.heap.size:=by have:=HA.out.grown.size;omega
     have hcl:u.code.length≤9223372036854775807:=jB.few.2;have HA2:Hid (xq m ab au cb cu w (wr.alloc (gP u al ac cl cc)) l):=HA.out.new _;have vD:Hid ((wr.alloc (gP u al ac cl cc)).heap[wr.heap.size]?=some (gP u al ac cl cc)):=heap_alloc_new wr _;clear hu jB sF;subst ha;go_wp2_with fail
     generalize hN:wr.heap.size=N2 at vD ⊢;go_loopw [41] (fun v wr=>∃ (x:Nat) (l:List Bool),v=.int .i64 x∧x≤u.code.length∧xq m ab _ cb cu w wr l∧Vf.wU m i=Vf.rounds m.units (m.units.length - (j+1)) (Vf.vB (m.units.drop (k+1)) (k+1) ((u.code.drop x).foldl (Vf.mark k) l))) (fun v _=>u.code.length - (intOf v).toNat)
     case atStart=>exact⟨0,l,rfl,Nat.zero_le _,HA2.out,tH.out⟩
     case round =>
      clear lw HA tH HA2 vD u0 u1 u2 u3 u4 u5 hbw;obtain⟨x,l,rfl,hx,hA,hin⟩:=hrel;have HA:=hide hA;have sF:=hide hin;have lw:=lt_of_block hA.mb;clear hA hin;by_cases hxl:x<u.code.length
      ·obtain⟨⟨op',a',n'⟩,hc⟩:∃ c,u.code[x]?=some c:=⟨_,List.getElem?_eq_getElem hxl⟩
       obtain⟨_,_,_,b2,MF,hac,hb2,c0,c1,c2⟩:=(I4.out wr (aK HA.out.grown hB)).code x _ hc;obtain⟨bk,hbk⟩:∃ bk,l[k]?=some bk:=⟨_,List.getElem?_eq_getElem (by rw[HA.out.len];exact hkl)⟩;obtain⟨d0,f0,_,l0⟩:=GH HA.out.row hbk;have tH:Hid (Vf.wU m i=Vf.rounds m.units (m.units.length - (j+1)) (Vf.vB (m.units.drop (k+1)) (k+1) ((u.code.drop (x+1)).foldl (Vf.mark k) (Vf.mark k l ⟨op',a',n'⟩)))):=by unfold Hid;rw[sF.out,ac9 hc]
       have HCI:Hid (Vf.wT ⟨op',a',n'⟩=true→0≤a'∧a'.toNat<m.units.length):=fun ho=>Vf.NR hR.out HU.out (List.mem_of_getElem? hc) ho;have hxi:(x:Int)<(u.code.length:Int):=by omega
       have hbw:b2<wr.heap.size:=by have:=HA.out.grown.size;omega
       have xg:=hide hbk;clear hc sF hbk;subst hac;cases bk with
       | false =>
        have HM:Hid (Vf.mark k l ⟨op',a',n'⟩=l):=by unfold Hid Vf.mark;rw[if_neg (fun h=>by rw[xg.out] at h;cases h.1)]
        rw[HM.out] at tH;go_wp2
        go_roundw
        case rel=>exact⟨x+1,l,by go_num,hxl,HA.out.new _,tH.out⟩
        case measure=>simp[intOf];omega
       | true =>
        by_cases hcall:op'=23∨op'=29
        ·have Kw:Hid (Vf.wT ⟨op',a',n'⟩=true):=by unfold Hid Vf.wT;simpa using hcall
         obtain⟨ha0,Ak⟩:=HCI.out Kw.out;obtain⟨an,rfl⟩:=yM ha0;have Ov:(an:Int)<(m.units.length:Int):=by simp at Ak;omega
         have adf:an<m.units.length:=by simpa using Ak
         obtain⟨ba,UK⟩:∃ ba,l[an]?=some ba:=⟨_,List.getElem?_eq_getElem (by rw[HA.out.len];exact adf)⟩;obtain⟨d1,f1,_,_⟩:=GH HA.out.row UK;have HM:Hid (Vf.mark k l ⟨op',(an:Int),n'⟩=l.set an true):=by unfold Hid Vf.mark;rw[if_pos ⟨xg.out,Kw.out⟩];rfl
         rw[HM.out] at tH;clear UK ha0 Ak;by_cases h23:op'=23
         ·have e23:(op'==23)=true:=by simpa using h23
          clear h23 hcall;go_wp2
          go_roundw
          case rel=>exact⟨x+1,l.set an true,by go_num,hxl,(HA.out.set an).new _,tH.out⟩
          case measure=>simp[intOf];omega
         ·have e23:(op'==23)=false:=by simpa using h23
          have e29:(op'==29)=true:=by simpa using hcall.resolve_left h23
          clear h23 hcall;go_wp2
          go_roundw
          case rel=>exact⟨x+1,l.set an true,by go_num,hxl,(HA.out.set an).new _,tH.out⟩
          case measure=>simp[intOf];omega
        ·have e23:(op'==23)=false:=by simp;omega
         have e29:(op'==29)=false:=by simp;omega
         have HM:Hid (Vf.mark k l ⟨op',a',n'⟩=l):=by unfold Hid Vf.mark;rw[if_neg (fun h=>by have:=h.2;unfold Vf.wT at this;simp at this;omega)]
         rw[HM.out] at tH;clear hcall;go_wp2
         go_roundw
         case rel=>exact⟨x+1,l,by go_num,hxl,HA.out.new _,tH.out⟩
         case measure=>simp[intOf];omega
      ·have tH:Hid (Vf.wU m i=Vf.rounds m.units (m.units.length - (j+1)) (Vf.vB (m.units.drop (k+1)) (k+1) l)):=by
        have h1:=sF.out;rw[List.drop_eq_nil_of_le (show u.code.length≤x by omega)] at h1;exact h1
       clear sF;go_wp2
       go_roundw
       case rel=>exact⟨k+1,l,by go_num,hkl,HA.out,tH.out⟩
       case measure=>simp[intOf];omega
    ·have tH:Hid (Vf.wU m i=Vf.rounds m.units (m.units.length - (j+1)) l):=by
      have h1:=sF.out;rw[List.drop_eq_nil_of_le (by omega)] at h1;exact h1
     clear sF;go_wp2
     go_roundw
     case rel=>exact⟨j+1,l,by go_num,hjl,HA.out,tH.out⟩
     case measure=>simp[intOf];omega
  ·have Nw:Hid (Vf.wU m i=l):=by
    have h1:=sF.out;rw[show m.units.length - j=0 by omega] at h1;exact h1
   have En:Hid (b=((List.range m.units.length).drop 0).any (EA m l op a)):=by
    unfold Hid;rw[hb.out];unfold Vf.Cq EA;rw[Nw.out];rfl
   clear sF;go_wp2_with fail
   go_loopw [69] (fun v wr=>∃ (k:Nat),v=.int .i64 k∧k≤m.units.length∧xq m ab au cb cu w wr l∧b=((List.range m.units.length).drop k).any (EA m l op a)) (fun v _=>m.units.length - (intOf v).toNat)
   case atStart=>exact⟨0,rfl,Nat.zero_le _,HA.out,En.out⟩
   case round =>
    clear m0 m1 lw HA En;obtain⟨k,rfl,hk,hA,hin⟩:=hrel;have HA:=hide hA;have sF:=hide hin;have lw:=lt_of_block hA.mb;clear hA hin;by_cases hkl:k<m.units.length
    ·obtain⟨u,hu⟩:∃ u,m.units[k]?=some u:=⟨_,List.getElem?_eq_getElem hkl⟩
     obtain⟨bb,off,al,cl,ac,cc,ha,hbb,jB,u0,u1,u2,u3,u4,u5⟩:=(hmd.out.low (aK HA.out.grown hB)).units k u hu;have I4:Hid (∀ W,Low B w W→ig B W u al ac cl cc):=fun W hW=>jB.low (fun j hj=>(hW j hj).trans (aK HA.out.grown hB j hj).symm);obtain⟨bk,hbk⟩:∃ bk,l[k]?=some bk:=⟨_,List.getElem?_eq_getElem (by rw[HA.out.len];exact hkl)⟩;have xg:=hide hbk;have tH:Hid (b=((bk && (u.code.drop 0).any (fun c=>c.op==op && c.a==a)) || ((List.range m.units.length).drop (k+1)).any (EA m l op a))):=by
      unfold Hid;rw[sF.out,ada hkl];unfold EA;rw[hbk,Vf.NS hu];cases bk<;>rfl
     have hki:(k:Int)<(m.units.length:Int):=by omega
     have hbw:bb<wr.heap.size:=by have:=HA.out.grown.size;omega
     have hcl:u.code.length≤9223372036854775807:=jB.few.2;have HA2:Hid (xq m ab au cb cu w (wr.alloc (gP u al ac cl cc)) l):=HA.out.new _;clear hu jB sF hbk;subst ha;go_wp2_with fail
     generalize hN:wr.heap.size=N2;go_loopw [77] (fun v wr=>∃ (x:Nat),v=.int .i64 x∧x≤u.code.length∧xq m ab _ cb cu w wr l∧b=((bk && (u.code.drop x).any (fun c=>c.op==op && c.a==a)) || ((List.range m.units.length).drop (k+1)).any (EA m l op a))) (fun v _=>u.code.length - (intOf v).toNat)
     case atStart=>exact⟨0,rfl,Nat.zero_le _,HA2.out,tH.out⟩
     case round =>
      clear lw HA tH HA2 u0 u1 u2 u3 u4 u5 hbw;obtain⟨x,rfl,hx,hA,hin⟩:=hrel;have HA:=hide hA;have sF:=hide hin;have lw:=lt_of_block hA.mb;clear hA hin;by_cases hxl:x<u.code.length
      ·obtain⟨⟨op',a',n'⟩,hc⟩:∃ c,u.code[x]?=some c:=⟨_,List.getElem?_eq_getElem hxl⟩
       obtain⟨_,_,_,b2,MF,hac,hb2,c0,c1,c2⟩:=(I4.out wr (aK HA.out.grown hB)).code x _ hc;obtain⟨d0,f0,_,l0⟩:=GH HA.out.row xg.out;have tH:Hid (b=((bk && ((op'==op && a'==a) || (u.code.drop (x+1)).any (fun c=>c.op==op && c.a==a))) || ((List.range m.units.length).drop (k+1)).any (EA m l op a))):=by
        unfold Hid;rw[sF.out,adb hc]
       have hxi:(x:Int)<(u.code.length:Int):=by omega
       have hbw:b2<wr.heap.size:=by have:=HA.out.grown.size;omega
       clear hc sF;subst hac;cases bk with
       | false =>
        go_wp2
        go_roundw
        case rel=>exact⟨x+1,by go_num,hxl,HA.out.new _,tH.out⟩
        case measure=>simp[intOf];omega
       | true =>
        cases eo:(op'==op) with
        | false =>
         rw[eo] at tH;go_wp2
         go_roundw
         case rel=>exact⟨x+1,by go_num,hxl,HA.out.new _,tH.out⟩
         case measure=>simp[intOf];omega
        | true =>
         cases ea:(a'==a) with
         | false =>
          rw[eo,ea] at tH;go_wp2
          go_roundw
          case rel=>exact⟨x+1,by go_num,hxl,HA.out.new _,tH.out⟩
          case measure=>simp[intOf];omega
         | true =>
          have Es:Hid (b=true):=by have:=tH.out;rw[eo,ea] at this;exact this
          clear tH;go_wp2
          go_ret
          rw[Es.out];exact⟨rfl,(HA.out.new _).grown⟩
      ·have tH:Hid (b=((List.range m.units.length).drop (k+1)).any (EA m l op a)):=by
        have h1:=sF.out;rw[List.drop_eq_nil_of_le (show u.code.length≤x by omega)] at h1;unfold Hid;rw[h1];simp
       clear sF;go_wp2
       go_roundw
       case rel=>exact⟨k+1,by go_num,hkl,HA.out,tH.out⟩
       case measure=>simp[intOf];omega
    ·have zi:Hid (b=false):=by
      have h1:=sF.out;rw[List.drop_eq_nil_of_le (by simp;omega)] at h1;exact h1
     clear sF;go_wp2
     go_ret
     rw[zi.out];exact⟨rfl,HA.out.grown⟩
namespace Vf
theorem UL (m:Md)(n k:Nat):from' m (n+1) k=if (looks m k).1=0 then from' m n (k+1) else looks m k:=rfl
theorem UM (m:Md):∀ (a b k:Nat),from' m (a+b) k=if (from' m a k).1=0 then from' m b (k+a) else from' m a k
 | 0,b,k=>by rw[Nat.zero_add];rfl
 | a+1,b,k=>by
  rw[show a+1+b=(a+b)+1 by omega,UL,UL];by_cases h:(looks m k).1=0
  ·rw[if_pos h,if_pos h,UM m a b (k+1),show k+1+a=k+(a+1) by omega]
  ·rw[if_neg h,if_neg h,if_neg h]
theorem Iu (m:Md):∀ (n k:Nat),(from' m n k).1=0→∀ j,k≤j→j<k+n→(looks m j).1=0
 | 0,k,_,j,h1,h2=>by omega
 | n+1,k,h,j,h1,h2=>by
  unfold from' at h
  by_cases h0:(looks m k).1=0
  ·rw[if_pos h0] at h
   by_cases e:j=k
   ·rw[e];exact h0
   ·exact Iu m n (k+1) h j (by omega) (by omega)
  ·rw[if_neg h0] at h
   exact absurd h h0
def fin (m:Md)(b:Nat):Int × Int × Int:=if (gT (ug m) ((List.range m.boxes.length).drop b) b).1=0 then (0,0,0) else ((gT (ug m) ((List.range m.boxes.length).drop b) b).1,0,((gT (ug m) ((List.range m.boxes.length).drop b) b).2:Int))
def zL (m:Md)(k:Nat):Int × Int × Int:=if (uw (rH m) (m.units.drop k) k).1=0 then fin m 0 else uw (rH m) (m.units.drop k) k
theorem adg (m:Md):verify m=if (from' m 4 0).1=0 then zL m 0 else from' m 4 0:=by
 unfold verify;rw[UM m 4 2 0];by_cases h:(from' m 4 0).1=0
 ·rw[if_pos h,if_pos h]
  unfold zL fin;show from' m 2 4=_
  unfold from'
  simp only[looks,List.drop_zero];by_cases h4:(uw (rH m) m.units 0).1=0
  ·rw[if_pos h4,if_pos h4]
   unfold from'
   simp only[looks];by_cases h5:(EW m).1=0
   ·rw[if_pos h5]
    exact (if_pos (show (gT (ug m) (List.range m.boxes.length) 0).1=0 from h5)).symm
   ·rw[if_neg h5]
    exact (if_neg (show ¬ (gT (ug m) (List.range m.boxes.length) 0).1=0 from h5)).symm
  ·rw[if_neg h4,if_neg h4]
 ·rw[if_neg h,if_neg h]
theorem adh {m:Md}{k:Nat}{u:Un}(h:m.units[k]?=some u):zL m k=if (rH m u).1=0 then zL m (k+1) else ((rH m u).1,(k:Int),((rH m u).2:Int)):=by
 obtain⟨hk,rfl⟩:=List.getElem?_eq_some_iff.1 h;have e:uw (rH m) (m.units.drop k) k=if (rH m m.units[k]).1=0 then uw (rH m) (m.units.drop (k+1)) (k+1) else ((rH m m.units[k]).1,(k:Int),((rH m m.units[k]).2:Int)):=by
  rw[List.drop_eq_getElem_cons hk];rfl
 unfold zL;rw[e];by_cases h0:(rH m m.units[k]).1=0
 ·rw[if_pos h0,if_pos h0]
 ·rw[if_neg h0,if_neg h0,if_neg h0]
theorem adi {m:Md}{k:Nat}(h:m.units.length≤k):zL m k=fin m 0:=by
 unfold zL;rw[List.drop_eq_nil_of_le h];rfl
theorem adj {m:Md}{b:Nat}(h:b<m.boxes.length):fin m b=if ug m b=0 then fin m (b+1) else (ug m b,0,(b:Int)):=by
 have hr:(List.range m.boxes.length)[b]?=some b:=by rw[List.getElem?_range h]
 unfold fin;rw[Gh _ hr];by_cases h0:ug m b=0
 ·rw[if_pos h0,if_pos h0]
 ·rw[if_neg h0,if_neg h0,if_neg h0]
theorem adk {m:Md}{b:Nat}(h:m.boxes.length≤b):fin m b=(0,0,0):=by
 unfold fin;rw[List.drop_eq_nil_of_le (by simpa using h)];rfl
end Vf
theorem UN {m:Vf.Md}(hR:Rt m){k:Nat}{u:Vf.Un}(hu:m.units[k]?=some u){q:Lk}(hq:q.1=26∨q.1=27):Vf.tc m q (k+1)=Vf.tc m q k+if (u.kind==4 && Vf.Cq m k q)=true then 1 else 0:=by
 rw[Vf.LZ,JG hu,Vf.abB hR (List.getElem?_eq_some_iff.1 hu).1 hq]
abbrev UO (e u n:Int):Obj:=.cells #[.int .i64 e,.int .i64 u,.int .i64 n] 28 (0,0)
theorem adl (m:Vf.Md)(ab au:Option Addr)(cb cu B:Nat)(w:World)(hmd:Hid (aD B w m ab au))(hB:B≤w.heap.size)(r:Int × Int × Int)(hr:Hid (r=Vf.verify m)) :
  Calls Tryz.prog 11 #[aT m ab au cb cu] w fun e w'=>e=.returned (gM r.1 r.2.1 r.2.2)∧w.grownBy w' none:=by
 obtain⟨W0,hW0⟩:∃ W0:World,(w.alloc (uM m ab au cb cu)).alloc aU=W0:=⟨_,rfl⟩;have HT:Hid (vC m ab au cb cu w W0):=by
  rw[← hW0];exact⟨aF _ _ _,(Below.heap_alloc _ _ _ (by simp)).trans (heap_alloc_new w _),zC _ _ _⟩
 obtain⟨⟨fe,fu,fn⟩,hF⟩:∃ F,F=Vf.from' m 4 0:=⟨_,rfl⟩
 have HF:=hide hF;have K3:Hid (r=if fe=0 then Vf.zL m 0 else (fe,fu,fn)):=by
  unfold Hid;rw[hr.out,Vf.adg,← hF]
 have gY:Hid (fe=0→Rt m∧m.boxes.length≤30):=fun h0=>by
  have h1:(Vf.from' m 4 0).1=0:=by rw[← hF];exact h0
  have hz:=Vf.Iu m 4 0 h1;exact Fp (hz 0 (by omega) (by omega)) (hz 1 (by omega) (by omega)) (hz 2 (by omega) (by omega))
 obtain⟨m0,m1,_⟩:=lF HT.out.mb;obtain⟨⟨z0,z1,z2⟩,y0,y1,y2⟩:=aP HT.out.wz;have hzl:=lt_of_block HT.out.wz;have xM:w.heap.size<_:=lt_of_block HT.out.mb;clear hF hr;go_enter Tryz.func11,Tryz.ntmps11
 go_wp2_with fail
 refine (abU m ab au cb cu B _ (hide (hmd.out.low (aK HT.out.grown hB))) (by have:=HT.out.grown.size;omega) (fe,fu,fn) HF).mono ?_;rintro e w2 ⟨rfl,hg2⟩;have HA2:Hid (vC m ab au cb cu w w2):=HT.out.next hg2;clear m0 m1 z0 z1 z2 y0 y1 y2 hzl xM hg2 HT HF;obtain⟨m0,m1,_⟩:=lF HA2.out.mb;obtain⟨⟨z0,z1,z2⟩,y0,y1,y2⟩:=aP HA2.out.wz;have hzl:=lt_of_block HA2.out.wz;have xM:w.heap.size<_:=lt_of_block HA2.out.mb;by_cases h0:fe=0
 ·have e0:(fe != 0)=false:=by simpa using h0
  obtain⟨aS,hnb⟩:=gY.out h0;have HR:=hide aS;have hmu:=aS.units;have D6:Hid (r=Vf.zL m 0):=by have:=K3.out;rw[if_pos h0] at this;exact this
  clear h0 K3 gY aS;go_wp2_with fail
  go_loopw [20] (fun v wr=>∃ k:Nat,v=.int .i64 k∧k≤m.units.length∧vC m ab au cb cu w wr∧r=Vf.zL m k) (fun v _=>m.units.length - (intOf v).toNat)
  case atStart=>exact⟨0,rfl,Nat.zero_le _,HA2.out.new _,D6.out⟩
  case round =>
   clear m0 m1 z0 z1 z2 y0 y1 y2 hzl xM HA2 D6;obtain⟨k,rfl,hk,hA,hby⟩:=hrel;have HA:=hide hA;have uS:=hide hby;clear hA hby;obtain⟨m0,m1,_⟩:=lF HA.out.mb;obtain⟨⟨z0,z1,z2⟩,y0,y1,y2⟩:=aP HA.out.wz;have hzl:=lt_of_block HA.out.wz;have xM:w.heap.size<_:=lt_of_block HA.out.mb;by_cases hkl:k<m.units.length
   ·obtain⟨u,hu⟩:∃ u,m.units[k]?=some u:=⟨_,List.getElem?_eq_getElem hkl⟩
    have hmw:aD B wr m ab au:=hmd.out.low (aK HA.out.grown hB);obtain⟨bb,off,al,cl,ac,cc,ha,hbb,jB,u0,u1,u2,u3,u4,u5⟩:=hmw.units k u hu;obtain⟨e1,n1,hen⟩:∃ (e1 n1:Int),(e1,n1)=((Vf.rH m u).1,((Vf.rH m u).2:Int)):=⟨_,_,rfl⟩;obtain⟨un,UQ⟩:∃ un:Int,un=if e1=0 then 0 else (k:Int):=⟨_,rfl⟩;have UR:e1=(Vf.rH m u).1:=congrArg (fun x:Int × Int=>x.1) hen;have UT:n1=((Vf.rH m u).2:Int):=congrArg (fun x:Int × Int=>x.2) hen;have HN:Hid (r=if e1=0 then Vf.zL m (k+1) else (e1,(k:Int),n1)):=by
     unfold Hid;rw[uS.out,Vf.adh hu,UR,UT]
    have Fa:=hide hen;have Hu:=hide UQ;have HU:=hide hu;have UU:=hide hmw;have Aa:=hide jB;have V0:=hide u0;have V1:=hide u1;have V2:=hide u2;have V3:=hide u3;have V4:=hide u4;have V5:=hide u5;have hki:(k:Int)<(m.units.length:Int):=by omega
    have hBw:B≤wr.heap.size:=by have:=HA.out.grown.size;omega
    clear hu hmw jB hen UR UT UQ u0 u1 u2 u3 u4 u5 uS;subst ha;go_wp2_with fail
    refine (ac3 ⟨m,u,ab,some ⟨bb,off,none⟩,al,ac,cb,cu,cl,cc,0⟩ B k bb off wr UU hBw HU (hide rfl) hbb Aa V0.out V1.out V2.out V3.out V4.out V5.out HR e1 un n1 Fa Hu).mono ?_;rintro e w3 ⟨rfl,hg3⟩;have zI:Hid (vC m ab _ cb cu w w3):=HA.out.next hg3;clear m0 m1 z0 z1 z2 y0 y1 y2 hzl xM hg3 HA UU Aa V0 V1 V2 V3 V4 V5;obtain⟨m0,m1,_⟩:=lF zI.out.mb;obtain⟨⟨z0,z1,z2⟩,y0,y1,y2⟩:=aP zI.out.wz;have hzl:=lt_of_block zI.out.wz;have xM:w.heap.size<_:=lt_of_block zI.out.mb;by_cases h1:e1=0
    ·have ee:(e1 != 0)=false:=by simpa using h1
     have HE:Hid (r=Vf.zL m (k+1)):=by have:=HN.out;rw[if_pos h1] at this;exact this
     clear h1 HN;go_wp2
     go_roundw
     case rel=>exact⟨k+1,by go_num,hkl,zI.out.new _,HE.out⟩
     case measure=>simp[intOf];omega
    ·have ee:(e1 != 0)=true:=by simpa using h1
     have HE:Hid (r=(e1,un,n1)):=by have h2:=HN.out;rw[if_neg h1] at h2;have h3:=Hu.out;rw[if_neg h1] at h3;rw[h2,h3];rfl
     clear h1 HN;go_wp2
     have hX:=jd zI.out.wz (.int .i64 e1) (.int .i64 un) (.int .i64 n1);obtain⟨⟨g0,g1,g2⟩,_⟩:=aP ((Below.heap_alloc _ (UO e1 un n1) _ (lt_of_block hX)).trans hX);refine bodyPost_ret (v:=gM e1 un n1) (by simp[results,Tryz.results11,go_sem,g0,g1,g2]) rfl ?_;rw[HE.out];exact⟨rfl,ai (af (af (af zI.out.grown (by omega) _ _) (by omega) _ _) (by omega) _ _) _⟩
   ·have rJ:Hid (r=Vf.fin m 0):=by unfold Hid;rw[uS.out,Vf.adi (by omega)]
    clear uS;go_wp2_with fail
    go_loopw [34] (fun v wr=>∃ b:Nat,v=.int .i64 b∧b≤m.boxes.length∧vC m ab au cb cu w wr∧r=Vf.fin m b) (fun v _=>m.boxes.length - (intOf v).toNat)
    case atStart=>exact⟨0,rfl,Nat.zero_le _,HA.out,rJ.out⟩
    case round =>
     clear m0 m1 z0 z1 z2 y0 y1 y2 hzl xM HA rJ;obtain⟨b,rfl,hb,hA,hby⟩:=hrel;have HA:=hide hA;have uS:=hide hby;clear hA hby;obtain⟨m0,m1,_⟩:=lF HA.out.mb;obtain⟨⟨z0,z1,z2⟩,y0,y1,y2⟩:=aP HA.out.wz;have hzl:=lt_of_block HA.out.wz;have xM:w.heap.size<_:=lt_of_block HA.out.mb;by_cases hbl:b<m.boxes.length
     ·have HN:Hid (r=if Vf.ug m b=0 then Vf.fin m (b+1) else (Vf.ug m b,0,(b:Int))):=by unfold Hid;rw[uS.out,Vf.adj hbl]
      have hbi:(b:Int)<(m.boxes.length:Int):=by omega
      clear uS;go_wp2_with fail
      go_loopw [7,8,40] (fun v7 v8 v wr=>∃ (k s t:Nat),v=.int .i64 k∧v7=.int .i64 s∧v8=.int .i64 t∧k≤m.units.length∧vC m ab au cb cu w wr∧s=Vf.tc m (26,(b:Int)) k∧t=Vf.tc m (27,(b:Int)) k) (fun _ _ v _=>m.units.length - (intOf v).toNat)
      case atStart=>exact⟨0,0,0,rfl,rfl,rfl,Nat.zero_le _,HA.out,rfl,rfl⟩
      case round =>
       clear m0 m1 z0 z1 z2 y0 y1 y2 hzl xM HA;obtain⟨k,s,t,rfl,rfl,rfl,hk2,hA,hs,ht⟩:=hrel;have HA:=hide hA;have HS:=hide hs;have AX:=hide ht;have aer:s≤30:=by have:=Vf.L6 m (26,(b:Int)) k;omega
       have aes:t≤30:=by have:=Vf.L6 m (27,(b:Int)) k;omega
       clear hA hs ht;obtain⟨m0,m1,_⟩:=lF HA.out.mb;obtain⟨⟨z0,z1,z2⟩,y0,y1,y2⟩:=aP HA.out.wz;have hzl:=lt_of_block HA.out.wz;have xM:w.heap.size<_:=lt_of_block HA.out.mb;by_cases hk3:k<m.units.length
       ·obtain⟨u,hu⟩:∃ u,m.units[k]?=some u:=⟨_,List.getElem?_eq_getElem hk3⟩
        have hmw:aD B wr m ab au:=hmd.out.low (aK HA.out.grown hB);obtain⟨bb,off,al,cl,ac,cc,ha,hbb,jB,u0,u1,u2,u3,u4,u5⟩:=hmw.units k u hu;have hki:(k:Int)<(m.units.length:Int):=by omega
        have HS2:Hid (Vf.tc m (26,(b:Int)) (k+1)=s+if (u.kind==4 && Vf.Cq m k (26,(b:Int)))=true then 1 else 0):=by unfold Hid;rw[UN HR.out hu (.inl rfl),HS.out]
        have HT2:Hid (Vf.tc m (27,(b:Int)) (k+1)=t+if (u.kind==4 && Vf.Cq m k (27,(b:Int)))=true then 1 else 0):=by unfold Hid;rw[UN HR.out hu (.inr rfl),AX.out]
        have hbw:bb<wr.heap.size:=by have:=HA.out.grown.size;omega
        clear hu hmw jB HS AX;cases e4:(u.kind==4) with
        | false =>
         rw[e4] at HS2 HT2;have jD:Hid (s=Vf.tc m (26,(b:Int)) (k+1)):=HS2.out.symm;have HT3:Hid (t=Vf.tc m (27,(b:Int)) (k+1)):=HT2.out.symm;clear HS2 HT2;subst ha;go_wp2
         go_roundw
         case rel=>exact⟨k+1,s,t,by go_num,rfl,rfl,hk3,HA.out.new _,jD.out,HT3.out⟩
         case measure=>simp[intOf];omega
        | true =>
         rw[e4] at HS2 HT2;obtain⟨c1,hc1⟩:∃ c1,c1=Vf.Cq m k (26,(b:Int)):=⟨_,rfl⟩;obtain⟨c2,hc2⟩:∃ c2,c2=Vf.Cq m k (27,(b:Int)):=⟨_,rfl⟩;rw[← hc1] at HS2;rw[← hc2] at HT2;have Il:=hide hc1;have zY:=hide hc2;have HA2:Hid (vC m ab au cb cu w (wr.alloc (gP u al ac cl cc))):=HA.out.new _;have vD:Hid ((wr.alloc (gP u al ac cl cc)).heap[wr.heap.size]?=some (gP u al ac cl cc)):=heap_alloc_new wr _;clear hc1 hc2;subst ha;go_wp2_with fail
         refine (OD m ab _ cb cu B k 26 (b:Int) _ (hide (hmd.out.low (aK HA2.out.grown hB))) (by have:=HA2.out.grown.size;omega) HR hk3 c1 Il).mono ?_;rintro e w4 ⟨rfl,hg4⟩;have zM:Hid (vC m ab _ cb cu w w4):=HA2.out.next hg4;have K4:Hid (w4.heap[wr.heap.size]?=some (gP u al ac cl cc)):=(aC hg4 (lt_of_block vD.out)).trans vD.out;clear m0 m1 z0 z1 z2 y0 y1 y2 hzl xM hg4 HA HA2 vD u0 u1 u2 u3 u4 u5 hbw;obtain⟨m0,m1,_⟩:=lF zM.out.mb;obtain⟨⟨z0,z1,z2⟩,y0,y1,y2⟩:=aP zM.out.wz;have hzl:=lt_of_block zM.out.wz;have xM:w.heap.size<_:=lt_of_block zM.out.mb;have q0:=(Eo K4.out).1;have lq:=lt_of_block K4.out;cases c1 with
         | false =>
          have jD:Hid (s=Vf.tc m (26,(b:Int)) (k+1)):=HS2.out.symm;clear HS2;go_wp2_with fail
          refine (OD m ab _ cb cu B k 27 (b:Int) _ (hide (hmd.out.low (aK zM.out.grown hB))) (by have:=zM.out.grown.size;omega) HR hk3 c2 zY).mono ?_;rintro e w5 ⟨rfl,hg5⟩;have Jh:Hid (vC m ab _ cb cu w w5):=zM.out.next hg5;clear m0 m1 z0 z1 z2 y0 y1 y2 hzl xM hg5 zM K4 q0 lq;cases c2 with
          | false =>
           have HT3:Hid (t=Vf.tc m (27,(b:Int)) (k+1)):=HT2.out.symm;clear HT2;go_wp2
           go_roundw
           case rel=>exact⟨k+1,s,t,by go_num,by go_num,by go_num,hk3,Jh.out,jD.out,HT3.out⟩
           case measure=>simp[intOf];omega
          | true =>
           have HT3:Hid (t+1=Vf.tc m (27,(b:Int)) (k+1)):=HT2.out.symm;clear HT2;go_wp2
           go_roundw
           case rel=>exact⟨k+1,s,t+1,by go_num,by go_num,by go_num,hk3,Jh.out,jD.out,HT3.out⟩
           case measure=>simp[intOf];omega
         | true =>
          have jD:Hid (s+1=Vf.tc m (26,(b:Int)) (k+1)):=HS2.out.symm;clear HS2;go_wp2_with fail
          refine (OD m ab _ cb cu B k 27 (b:Int) _ (hide (hmd.out.low (aK zM.out.grown hB))) (by have:=zM.out.grown.size;omega) HR hk3 c2 zY).mono ?_;rintro e w5 ⟨rfl,hg5⟩;have Jh:Hid (vC m ab _ cb cu w w5):=zM.out.next hg5;clear m0 m1 z0 z1 z2 y0 y1 y2 hzl xM hg5 zM K4 q0 lq;cases c2 with
          | false =>
           have HT3:Hid (t=Vf.tc m (27,(b:Int)) (k+1)):=HT2.out.symm;clear HT2;go_wp2
           go_roundw
           case rel=>exact⟨k+1,(s+1),t,by go_num,by go_num,by go_num,hk3,Jh.out,jD.out,HT3.out⟩
           case measure=>simp[intOf];omega
          | true =>
           have HT3:Hid (t+1=Vf.tc m (27,(b:Int)) (k+1)):=HT2.out.symm;clear HT2;go_wp2
           go_roundw
           case rel=>exact⟨k+1,(s+1),t+1,by go_num,by go_num,by go_num,hk3,Jh.out,jD.out,HT3.out⟩
           case measure=>simp[intOf];omega
       ·have hke:k=m.units.length:=by omega
        by_cases hown:1<s∨1<t
        ·have HE:Hid (r=(8,0,(b:Int))):=by
          have h1:=HN.out;have h2:Vf.ug m b=8:=by unfold Vf.ug;rw[← hke,← HS.out,← AX.out,if_pos hown]
          rw[h2,if_neg (by decide)] at h1;exact h1
         clear hke HN HS AX;by_cases h1:1<s
         ·have d1:decide ((1:Int)<(s:Int))=true:=by simp;omega
          clear hown h1;go_wp2
          refine bodyPost_ret (v:=gM 8 0 (b:Int)) (by simp[results,Tryz.results11,go_sem,z0,z1,z2]) rfl ?_;rw[HE.out];exact⟨rfl,af (af (af HA.out.grown (by omega) _ _) (by omega) _ _) (by omega) _ _⟩
         ·have d1:decide ((1:Int)<(s:Int))=false:=by simp;omega
          have d2:decide ((1:Int)<(t:Int))=true:=by have:=hown.resolve_left h1;simp;omega
          clear hown h1;go_wp2
          refine bodyPost_ret (v:=gM 8 0 (b:Int)) (by simp[results,Tryz.results11,go_sem,z0,z1,z2]) rfl ?_;rw[HE.out];exact⟨rfl,af (af (af HA.out.grown (by omega) _ _) (by omega) _ _) (by omega) _ _⟩
        ·have HE:Hid (r=Vf.fin m (b+1)):=by
          have h1:=HN.out;have h2:Vf.ug m b=0:=by unfold Vf.ug;rw[← hke,← HS.out,← AX.out,if_neg hown]
          rw[h2,if_pos rfl] at h1;exact h1
         have d1:decide ((1:Int)<(s:Int))=false:=by simp;omega
         have d2:decide ((1:Int)<(t:Int))=false:=by simp;omega
         clear hke HN HS AX hown;go_wp2
         go_roundw
         case rel=>exact⟨b+1,by go_num,hbl,HA.out,HE.out⟩
         case measure=>simp[intOf];omega
     ·have HE:Hid (r=(0,0,0)):=by unfold Hid;rw[uS.out,Vf.adk (by omega)]
      clear uS;go_wp2
      refine bodyPost_ret (v:=gM 0 0 0) (by simp[results,Tryz.results11,go_sem,z0,z1,z2]) rfl ?_;rw[HE.out];exact⟨rfl,af (af (af HA.out.grown (by omega) _ _) (by omega) _ _) (by omega) _ _⟩
 ·have e0:(fe != 0)=true:=by simpa using h0
  have HE:Hid (r=(fe,fu,fn)):=by have:=K3.out;rw[if_neg h0] at this;exact this
  clear h0 K3 gY;go_wp2
  have hX:=jd HA2.out.wz (.int .i64 fe) (.int .i64 fu) (.int .i64 fn);obtain⟨⟨g0,g1,g2⟩,_⟩:=aP ((Below.heap_alloc _ (UO fe fu fn) _ (lt_of_block hX)).trans hX);refine bodyPost_ret (v:=gM fe fu fn) (by simp[results,Tryz.results11,go_sem,g0,g1,g2]) rfl ?_;rw[HE.out];exact⟨rfl,ai (af (af (af HA2.out.grown (by omega) _ _) (by omega) _ _) (by omega) _ _) _⟩
end Go.Proofs.YtbdpdjcdhclbfaaGreat
namespace Go.Proofs.YtbdpdjcdhclbfaaGreat.Ow
open Go.RowKit Vf Vm Ot Od
theorem adm {m:Md}{u:Un}(hf:Forms m u):Od.Good u.code:=fun c hc h=>ZG (hf c hc) h
def Ji (w:World)(P:Nat):Nat:=match w.cell? ⟨P,5,none⟩ with
 | some (.slice _ n _)=>n
 | _=>0
structure DL (B:Nat) (w:World) (x:UV):Prop where
 un:ig w.heap.size w x.u x.al x.ac x.cl x.cc
 low:IntsIn B w x.u.locals x.al
 ac:xm w x.ac
theorem DL.grown {B:Nat}{w w':World}{x:UV}{r:Option Nat}(h:DL B w x)(hB:B≤w.heap.size)(hg:w.grownBy w' r)(hr:∀ k,r=some k→B≤k∧∃ cs t,w.heap[k]?=some (.cells cs t (0,0))∧t≠3∧t≠47):DL B w' x:=by
 obtain⟨k2,r2⟩:=Ni h.ac hg (fun k hk=>(hr k hk).2);have hl:IntsIn B w' x.u.locals x.al:=fun i y hy=>by
  obtain⟨a,b,o,e,hb,c0⟩:=h.low i y hy;exact⟨a,b,o,e,hb,(gZ (hg.block b (by omega) (fun e=>by have:=(hr b e.symm).1;omega)) _).trans c0⟩
 refine⟨⟨h.un.nums,h.un.few,h.un.uh,fun i y hy=>?_,fun i y hy=>?_⟩,hl,r2⟩
 ·obtain⟨a,b,o,e,hb,c0⟩:=hl i y hy
  exact⟨a,b,o,e,Nat.lt_of_lt_of_le hb (Nat.le_trans hB hg.size),c0⟩
 ·obtain⟨a1,a2,a3,b,o,e,hb,c0,c1,c2⟩:=h.un.code i y hy
  exact⟨a1,a2,a3,b,o,e,Nat.lt_of_lt_of_le hb hg.size,(gZ (k2 _ e) _).trans c0,(gZ (k2 _ e) _).trans c1,(gZ (k2 _ e) _).trans c2⟩
theorem UW {w:World}{P n:Nat}{a b c d e:Value}{ad:Option Addr}{cp:Nat}(h:w.heap[P]?=some (.cells #[a,b,c,d,e,.slice ad n cp] 40 (0,0))):Ji w P=n:=by
 unfold Ji;simp[World.cell?,h]
theorem adn {w:World}{k:Nat}{a b c d e f:Value}{t:TypeId}(h:w.heap[k]?=some (.cells #[a,b,c,d,e,f] t (0,0)))(y:Value):(w.setCell ⟨k,5,none⟩ y).heap[k]?=some (.cells #[a,b,c,d,e,y] t (0,0)):=by
 simp only[World.setCell,Array.getElem?_modify,if_true,h,Option.map_some];rfl
structure zn (B C:Nat) (us:List UV) (v:Value) (w:World):Prop where
 own:w.ownsRow C 40 6 v us.length (xk us)
 each:∀ x ∈ us,DL B w x
theorem zn.on {B C:Nat}{us:List UV}{v:Value}{w w':World}(h:zn B C us v w)(hB:B≤w.heap.size)(hb:Below w.heap.size w w'):zn B C us v w':=⟨Ep h.own hb,fun x hx=>(h.each x hx).grown hB (Fv hb none) (fun k hk=>by cases hk)⟩
theorem zn.more {B C:Nat}{us:List UV}{v v':Value}{x:UV}{W5 w6:World}(h:zn B C us v W5)(hx:DL B W5 x)(hown:w6.ownsRow C 40 6 v' (us.length+1) (xk us++xV x))(hgr:W5.grownBy w6 v.ownBlock)(hBC:B≤C)(hCW:C≤W5.heap.size):zn B C (us++[x]) v' w6:=by
 have key:∀ y,DL B W5 y→DL B w6 y:=fun y hy=>hy.grown (by omega) hgr (fun k hk=>⟨by have:=(h.own.lt k hk).1;omega,Ta h.own k hk⟩);refine⟨?_,fun y hy=>?_⟩
 ·have e:xk (us++[x])=xk us++xV x:=by simp[xk]
  rw[e,List.length_append];exact hown
 ·rcases List.mem_append.1 hy with hy | hy
  ·exact key y (h.each y hy)
  ·simp at hy
   subst hy;exact key _ hx
theorem zn.set {B C N5:Nat}{us:List UV}{v:Value}{w:World}(h:zn B C us v w)(hw:B≤w.heap.size)(hB:B≤N5)(hC:N5<C){n:Nat}{t:TypeId}(ht:jk w N5 t n)(h1:t≠3)(h2:t≠47)(o:Nat)(p:Value):zn B C us v (w.setCell ⟨N5,o,none⟩ p):=by
 obtain⟨cs,ht,_⟩:=ht;have hset:w.grownBy (w.setCell ⟨N5,o,none⟩ p) (some N5):=yz (World.grownBy.refl _ _) _ rfl _;refine⟨IP h.own hset (fun k hk e=>by cases e;have:=(h.own.lt _ hk).1;omega),fun x hx=>(h.each x hx).grown hw hset (fun k hk=>by cases hk;exact⟨hB,_,_,ht,h1,h2⟩)⟩
theorem zn.units {B C:Nat}{us:List UV}{v:Value}{w:World}(h:zn B C us v w):∃ au cu,v=.slice au us.length cu∧FM w.heap.size w (us.map (·.u)) au:=by
 obtain⟨au,cu,rfl,hc,hr⟩:=yX h.own;refine⟨au,cu,rfl,?_⟩;by_cases h0:0<us.length
 ·obtain⟨g,cap,e,_,_,_,hU⟩:=SG h.own h0 (fun i x hx=>(h.each x (List.mem_of_getElem? hx)).un)
  cases e;exact hU.units (Nat.le_refl _)
 ·obtain rfl:us=[]:=List.eq_nil_of_length_eq_zero (by omega)
  exact fun i x hx=>by simp at hx
theorem ado (B:Nat)(m:Md)(ab au:Option Addr)(cb cu:Nat)(w:World)(hB:Hid (B≤w.heap.size))(hin:Hid (aD B w m ab au)) :
  Calls Tryz.prog 5 #[AP m ab au cb cu] w fun e w'=>Ku m w e w':=by
 obtain⟨V,hV⟩:∃ V,V=((w.alloc (xI m ab au cb cu)).alloc Gq).alloc Fz:=⟨_,rfl⟩;have Iy:Below w.heap.size w V:=by rw[hV];exact EM _ _ _ _
 have hN0:V.heap[w.heap.size]?=some (xI m ab au cb cu):=by rw[hV,Below.heap_alloc _ _ _ (by simp;omega)];exact yY _ _ _
 have hN1:V.heap[w.heap.size+1]?=some Gq:=by rw[hV,Below.heap_alloc _ _ _ (by simp)];exact yZ _ _ _
 have AJ:V.heap[w.heap.size+1+1]?=some Fz:=by rw[hV];exact uU _ _ _ _
 have Iz:V.heap.size=w.heap.size+3:=by rw[hV];simp
 have HV:=hide hV.symm;have ll:=hide Iy;have uY:=hide hN0;have wM:=hide hN1;have aX:=hide AJ;have Nk:=hide Iz;clear hV Iy hN1 AJ Iz;obtain⟨N,hN⟩:∃ N,N=w.heap.size:=⟨_,rfl⟩;have AQ:=hide hN;have xJ:Hid (∀ W:World,Below w.heap.size w W→B≤W.heap.size∧aD B W m ab au):=fun W h=>⟨Nat.le_trans hB.out h.size,hin.out.low (fun k hk=>h.block k (by have:=hB.out;omega))⟩;obtain⟨r,hr⟩:∃ r,r=verify m:=⟨_,rfl⟩;have HR:=hide hr;have IA:=adl m ab au cb cu B V (hide (xJ.out _ ll.out).2) (xJ.out _ ll.out).1 r HR;have IB:=hide IA;clear hr IA;obtain⟨a0,a1,_,_⟩:=vR hN0;clear hN0;go_enter Tryz.func5,Tryz.ntmps5
 go_upto_region 1 with fail
 rw[HV.out];rw[← hN] at a0 a1 uY wM aX ⊢;clear hN HV;go_wp2_with fail
 refine IB.out.mono ?_;rintro e w1 ⟨rfl,hg1⟩;have hb1:=SY hg1;obtain⟨W1,hW1⟩:∃ W1,W1=w1.alloc (.cells #[.int .i64 r.1,.int .i64 r.2.1,.int .i64 r.2.2] 28):=⟨_,rfl⟩;have hbW:Below V.heap.size V W1:=by rw[hW1];exact az hb1 (fG _ _)
 have hq:W1.heap[w1.heap.size]?=some (.cells #[.int .i64 r.1,.int .i64 r.2.1,.int .i64 r.2.2] 28 (0,0)):=by rw[hW1];exact heap_alloc_new _ _
 have HW1:=hide hW1.symm;have uF:=hide hbW;have Es:Hid (Below w.heap.size w W1):=az ll.out hbW;have Cj:=hide (lD hbW uY.out);have zW:=hide (lD hbW wM.out);have uJ:=hide (lD hbW aX.out);have HQ:=hide hq;have hz1:=hb1.size;clear hg1 hb1 hW1 hbW hq uY wM aX a0 a1 IB;go_upto_region 2 with fail
 rw[HW1.out];clear HW1;generalize hN4:w1.heap.size=N4 at *;have abf:N+3≤N4:=by have:=AQ.out;have:=Nk.out;omega
 obtain⟨b0,b1,b2,_⟩:=Er HQ.out;obtain⟨x0,x1,y0,y1⟩:=vR zW.out;obtain⟨u0,u1,u2,v0,v1,v2⟩:=Er uJ.out;by_cases h0:r.1=0
 ·have e1:(r.1 != 0)=false:=by simpa using h0
  have Ac:verify m=(0,0,0):=Te (by rw[← HR.out];exact h0);have hmd:made m=BZ m:=by unfold made;rw[Ac];rfl
  have Nl:Hid (r=(0,0,0)):=HR.out.trans Ac;have hlk:=MN.1 Ac;obtain⟨aS,IC⟩:=Fp (hlk 0 (by omega)) (hlk 1 (by omega)) (hlk 2 (by omega));have HJ:Hid (∀ u ∈ m.units,yI u.code∧0<u.code.length∧u.code.length≤4000∧Od.Good u.code):=fun u hu=>by
   obtain⟨j1,j2,j3⟩:=RN Ac hu;obtain⟨k,hk⟩:=List.getElem?_of_mem hu;exact⟨j1,j2,j3,adm (aS.heads k u hk).2⟩
  have IE:=aS.units;have uH:=hide hmd;have Nn:=hide IE;have Im:=hide IC;obtain⟨a0,a1,_,_⟩:=vR Cj.out;clear h0 Ac hmd hlk aS IE IC;obtain⟨W2,hW2⟩:∃ W2,W2=W1.alloc (.cells #[.slice ab m.boxes.length cb,.slice none 0 0] 25):=⟨_,rfl⟩;have hbW2:Below W1.heap.size W1 W2:=by rw[hW2];exact fG _ _
  have hq2:W2.heap[W1.heap.size]?=some (.cells #[.slice ab m.boxes.length cb,.slice none 0 0] 25 (0,0)):=by rw[hW2];exact heap_alloc_new _ _
  have HW2:=hide hW2.symm;have Ck:=hide hbW2;have zA:=hide hq2;have hz2:N4<W1.heap.size:=lt_of_block HQ.out;clear hW2 hbW2 hq2 x0 x1 y0 y1 u0 u1 u2 v0 v1 v2;go_upto_region 5 with fail
  rw[HW2.out];clear HW2 a0 a1 b0 b1 b2;have ze:Hid (Below w.heap.size w W2):=az Es.out Ck.out;have Np:=hide (lD Ck.out Cj.out);have Nq:=hide (lD Ck.out zW.out);have Nr:=hide (lD Ck.out uJ.out);generalize Tc:W1.heap.size=N5 at *;obtain⟨a0,a1,_,_⟩:=vR Np.out;have Ns:N5<W2.heap.size:=lt_of_block zA.out;obtain⟨nu,hnu⟩:∃ nu,nu=m.units.length:=⟨_,rfl⟩;rw[← hnu] at a1;have Cm:=hide hnu;have nu1:(nu:Int)≤30:=by have:=Nn.out;omega
  have hBN:B≤N:=by have:=hB.out;have:=AQ.out;omega
  clear hnu;go_wp2
  clear a0 a1;go_loopw [23] (fun i wr=>∃ (k:Nat) (us:List UV) (v:Value),k≤nu∧i=.int .i64 k∧us.map (·.u)=(m.units.take k).map xU∧zn B W2.heap.size us v wr∧wr.heap[N5]?=some (.cells #[.slice ab m.boxes.length cb,v] 25 (0,0))∧kY (fun j=>j=N5) W2 wr) (fun i _=>nu - (intOf i).toNat)
  case atStart=>exact⟨0,[],.slice none 0 0,Nat.zero_le _,rfl,rfl,⟨Gp _ _ _ _,fun x hx=>by cases hx⟩,zA.out,kY.refl _ _⟩
  case round =>
   obtain⟨k,us,v,hk,rfl,FB,IG,h5,xW⟩:=hrel;have II:=hide FB;have FD:=hide IG;have H5:=hide h5;have Cn:=hide xW;have yA:us.length=k:=by
    have:=congrArg List.length FB;simp at this;have:=Cm.out;omega
   have FE:=hide yA;have lh:Hid (Below w.heap.size w wr):=⟨xW.os.trans ze.out.os,xW.tape.trans ze.out.tape,xW.output.trans ze.out.output,Nat.le_trans ze.out.size xW.size,fun j hj=>(xW.block j (Nat.lt_of_lt_of_le hj ze.out.size) (by have:=AQ.out;omega)).trans (ze.out.block j hj)⟩;clear FB IG h5 xW yA;by_cases hlt:k<nu
   ·obtain⟨u,hu⟩:∃ u,m.units[k]?=some u:=⟨_,List.getElem?_eq_getElem (by rw[← Cm.out];exact hlt)⟩
    obtain⟨hB2,zD⟩:=xJ.out _ lh.out;obtain⟨b,off,al,cl,ac,cc,yB,hb,hU,x0,x1,x2,x3,x4,x5⟩:=zD.units k u hu;subst yB;obtain⟨j1,j2,j3,j4⟩:=HJ.out u (List.mem_of_getElem? hu);have HU:=hide hU;have Nt:=hide hu;have Nu:=hide j1;have HJ4:=hide j4;have k0:(0:Int)≤(k:Int):=by omega
    have k1:(k:Int)<(nu:Int):=by omega
    have hbl:b<wr.heap.size:=by omega
    obtain⟨W3,hW3⟩:∃ W3,W3=wr.alloc (.cells #[.int .i64 u.kind,.int .i64 u.params,.slice al u.locals.length cl,.int .i64 u.result,.int .i64 u.takes,.slice ac u.code.length cc] 40):=⟨_,rfl⟩;have hb3:Below wr.heap.size wr W3:=by rw[hW3];exact fG _ _
    have hq3:W3.heap[wr.heap.size]?=some (.cells #[.int .i64 u.kind,.int .i64 u.params,.slice al u.locals.length cl,.int .i64 u.result,.int .i64 u.takes,.slice ac u.code.length cc] 40 (0,0)):=by rw[hW3];exact heap_alloc_new _ _
    have HW3:=hide hW3.symm;have HB3:=hide hb3;have xR:=hide hq3;clear hW3 hb3 hq3 hu hU zD j1 j4;go_wp2
    rw[HW3.out];clear HW3 x0 x1 x2 x3 x4 x5;generalize Kv:wr.heap.size=N7 at *;have OE:Hid (Below N7 wr W3):=HB3.out;obtain⟨Wr,rfl⟩:∃ Wr,Wr=wr:=⟨_,rfl⟩;go_loopw [] (fun wz=>∃ (lc:List Ins) (ao:Option Addr) (cc' f:Nat),short u.code=shorter (f+1) lc∧lc.length≤f+1∧0<lc.length∧lc.length≤4000∧yI lc∧Od.Good lc∧wz.heap[N7]?=some (.cells #[.int .i64 u.kind,.int .i64 u.params,.slice al u.locals.length cl,.int .i64 u.result,.int .i64 u.takes,.slice ao lc.length cc'] 40 (0,0))∧aV wz.heap.size wz lc ao∧Below N7 Wr wz) (fun wz=>Ji wz N7)
    case atStart =>
     refine⟨u.code,ac,cc,u.code.length - 1,by unfold short;rw[show u.code.length - 1+1=u.code.length by omega],by omega,j2,j3,Nu.out,HJ4.out,xR.out,?_,OE.out⟩;exact Iq (HU.out.code.low (fun q hq=>OE.out.block q (by omega))) (by have:=OE.out.size;omega)
    case round =>
     obtain⟨lc,ao,cc',f,s1,s2,s3,s4,s5,s6,s7,s8,s9⟩:=hrel;have jg:=hide s1;have uX:=hide s5;have UX:=hide s6;have OG:=hide s7;have HS9:=hide s9;have hon:=abr wr.heap.size ao lc cc' wr (hide s8) (Nat.le_refl _) s3 s4 UX uX;obtain⟨d,hd⟩:∃ d,d=decide ((over lc).length<lc.length):=⟨_,rfl⟩;obtain⟨n',hn'⟩:∃ n',n'=(over lc).length:=⟨_,rfl⟩;rw[← hd,← hn'] at hon;have Ae:=hide hon;have HD:=hide hd;have OH:=hide hn';obtain⟨z0,z1,z2,z3,z4,z5,f2,f5⟩:=zO s7;clear s1 s5 s6 s7 s8 s9 hon hd hn';go_wp2_with fail
     refine Ae.out.mono ?_;rintro e w5 ⟨g,cap,rfl,hcap,hcd,hrw,hb5⟩;have Ad:=lD hb5 OG.out;have hgN:g≠N7:=fun e=>by
      obtain⟨cs,t,h1,h2⟩:=hrw _ rfl;rw[e,Ad] at h1;simp at h1;rcases h2 with h2 | h2<;>rw[← h1.2] at h2<;>exact absurd h2 (by decide)
     obtain⟨W6,xD⟩:∃ W6,W6=w5.setCell ⟨N7,5,none⟩ (.slice (some ⟨g,0,none⟩) n' cap):=⟨_,rfl⟩;have Cg:W6.heap[g]?=w5.heap[g]?:=by rw[xD];exact Below.heap_setCell _ ⟨N7,5,none⟩ _ _ hgN
     have Nv:N7<wr.heap.size:=lt_of_block OG.out;have Et:Hid (W6.heap[N7]?=some (.cells #[.int .i64 u.kind,.int .i64 u.params,.slice al u.locals.length cl,.int .i64 u.result,.int .i64 u.takes,.slice (some ⟨g,0,none⟩) n' cap] 40 (0,0))):=by rw[xD];exact adn Ad _
     have UY:Hid (aV W6.heap.size W6 (over lc) (some ⟨g,0,none⟩)):=Iq (xG hcd Cg) (by rw[xD];simp);have J3:Hid (xm W6 (some ⟨g,0,none⟩)):=fun ad ha=>by
      obtain⟨cs,t,h1,h2⟩:=hrw ad ha;cases ha;exact⟨cs,t,Cg.trans h1,h2⟩
     have yQ:Hid (Below N7 Wr W6):=by rw[xD];exact (HS9.out.trans (hb5.mono (Nat.le_of_lt Nv))).setCell (p:=⟨N7,5,none⟩) (Nat.le_refl _) _
     have Ee:=hide xD.symm;have Fs:=hide hcap;obtain⟨z0,z1,z2,z3,z4,z5,f2,f5⟩:=zO Ad;clear xD Cg hgN hcd hrw hb5 Ad hcap Ae;cases d with
     | true =>
      have hlt2:(over lc).length<lc.length:=of_decide_eq_true HD.out.symm;have hpos:=GU s3;have HS:Hid (short u.code=shorter f (over lc)):=by
       unfold Hid;rw[jg.out,shorter,if_pos hlt2]
      have HM:Hid (Ji W6 N7<Ji wr N7):=by unfold Hid;rw[UW Et.out,UW OG.out,OH.out];exact hlt2
      obtain⟨f',rfl⟩:∃ f',f=f'+1:=⟨f - 1,by omega⟩;have HX:=hide (ZT UX.out);rw[OH.out] at Et;go_wp2_with fail
      rw[Ee.out];go_roundw
      case rel=>exact⟨over lc,some ⟨g,0,none⟩,cap,f',HS.out,by omega,hpos,by omega,RL uX.out,HX.out,Et.out,UY.out,yQ.out⟩
      case measure=>exact HM.out
     | false =>
      have hlt2:¬ (over lc).length<lc.length:=of_decide_eq_false HD.out.symm;have HS:Hid (short u.code=over lc):=by
       unfold Hid;rw[jg.out,shorter,if_neg hlt2]
      have hns:n'=(short u.code).length:=by rw[OH.out,HS.out]
      have aeu:=lt_of_block H5.out;have hlow:IntsIn B W6 u.locals al:=HU.out.locals.low (fun q hq=>yQ.out.block q (by omega));have iD:N7≤W6.heap.size:=by have:=yQ.out.size;omega
      have hx6:DL B W6 ⟨xU u,al,some ⟨g,0,none⟩,cl,cap⟩:=⟨⟨HU.out.nums,⟨HU.out.few.1,by have:=(MP u.code.length u.code).1;show (short u.code).length≤_;unfold short;omega⟩,⟨HU.out.uh.1,by show (short u.code).length≤cap;rw[← hns];exact Fs.out⟩,fun i y hy=>(by obtain⟨a1,b1,o1,e1,hb1,c1⟩:=hlow i y hy;exact⟨a1,b1,o1,e1,by omega,c1⟩),by show aV _ _ (short u.code) _;rw[HS.out];exact UY.out⟩,hlow,J3.out⟩;have AR:W6.heap[N5]?=some (.cells #[.slice ab m.boxes.length cb,v] 25 (0,0)):=(yQ.out.block N5 (by omega)).trans H5.out;have adr:=hide (FD.out.on (by omega) (by rw[Kv];exact yQ.out));have HX6:=hide hx6;have IM:=hide AR;have HNS:=hide hns;clear hlt2 hns hlow hx6 AR;go_upto_region 11 with fail
      rw[Ee.out];clear Ee z0 z1 z2 z3 z4 z5 f2 f5;obtain⟨y0,y1,y2,y3,y4,y5,_,_⟩:=zO Et.out;obtain⟨d0,d1,d2,d3⟩:=vR IM.out;obtain⟨i0,hi,hz0,hz1,hz2⟩:=Em Tryz.SC;obtain⟨x,hx⟩:∃ x:UV,x=⟨xU u,al,some ⟨g,0,none⟩,cl,cap⟩:=⟨_,rfl⟩;obtain⟨W5,kX⟩:∃ W5,W5=W6.alloc (.cells #[.int .i64 u.kind,.int .i64 u.params,.slice al u.locals.length cl,.int .i64 u.result,.int .i64 u.takes,.slice (some ⟨g,0,none⟩) n' cap] 40):=⟨_,rfl⟩;have Jj:Below W6.heap.size W6 W5:=by rw[kX];exact fG _ _
      have K5:=hide (adr.out.on (by omega) Jj);have Ny:Hid (DL B W5 x):=by unfold Hid;rw[hx];exact HX6.out.grown (by omega) (Fv Jj none) (fun k hk=>by cases hk)
      have IL:Hid (W5.heap[N5]?=some (.cells #[.slice ab m.boxes.length cb,v] 25 (0,0))):=lD Jj IM.out;have Nz:Hid (∀ j u',(xV x)[j]?=some u'→W5.cell? ((⟨W6.heap.size,0,none⟩:Addr).add j)=some u'):=fun j u' hu'=>by
       rw[Gn,Nat.zero_add];have h8:W5.heap[W6.heap.size]?=some (.cells (xV x).toArray 40 (0,0)):=by rw[kX,hx,HNS.out];exact heap_alloc_new _ _
       simp only[World.cell?,h8];simpa using hu'
      have xn:Hid (kY (fun j=>j=N5) W2 W5):=(Cn.out.trans (.of (by rw[Kv];exact yQ.out))).trans (.of Jj);have yt:=hide kX.symm;have hlen:us.length+1≤31:=by have:=FE.out;omega
      have NA:Hid ((us++[x]).map (·.u)=(m.units.take (k+1)).map xU):=by
       unfold Hid;rw[List.map_append,II.out,List.take_add_one,Nt.out,hx];simp
      clear kX Jj hx;go_wp2_with (at_builtin;rw[yt.out];refine Io rfl _ _ 23 rfl W2.heap.size 40 i0 _ 6 80 Tryz.underlying23 hi hz0 hz1 hz2 rfl (by decide) v us.length (xk us) rfl K5.out.own (some ⟨W6.heap.size,0,none⟩) 1 1 (xV x) rfl (fun e=>by cases e) rfl (fun ad e=>by cases e;exact Nz.out) (Ti x) (by unfold maxLen;omega) (by omega) (by have:=xn.out.size;exact this) ?_;intro v' w6 hown hgr;obtain⟨a6,c6,hv6,_,_⟩:=yX hown;subst hv6;have AR:w6.heap[N5]?=some (.cells #[.slice ab m.boxes.length cb,v] 25 (0,0)):=(hgr.block N5 (lt_of_block IL.out) (fun e=>by have:=(K5.out.own.lt N5 e.symm).1;omega)).trans IL.out;obtain⟨g0,g1,g2,g3⟩:=vR AR;have UZ:=hide AR;have HOWN:=hide hown;have wS:=hide hgr;clear hown hgr AR)
      have hbz:B≤w6.heap.size:=by have:=wS.out.size;have:=xn.out.size;omega
      have NC:Hid (zn B W2.heap.size (us++[x]) (.slice a6 (us.length+1) c6) (w6.setCell ⟨N5,1,none⟩ (.slice a6 (us.length+1) c6))):=(K5.out.more Ny.out HOWN.out wS.out (by omega) xn.out.size).set hbz (by omega) Ns ⟨_,UZ.out,rfl⟩ (by decide) (by decide) _ _;have ND:Hid (kY (fun j=>j=N5) W2 (w6.setCell ⟨N5,1,none⟩ (.slice a6 (us.length+1) c6))):=by
       have h6:kY (fun j=>j=N5) W2 w6:=⟨wS.out.os.trans xn.out.os,wS.out.tape.trans xn.out.tape,wS.out.output.trans xn.out.output,Nat.le_trans xn.out.size wS.out.size,fun j h1 h2=>(wS.out.block j (Nat.lt_of_lt_of_le h1 xn.out.size) (fun e=>by have:=(K5.out.own.lt j e.symm).1;omega)).trans (xn.out.block j h1 h2)⟩;exact h6.set ⟨N5,1,none⟩ rfl _
      go_roundw
      case rel=>exact⟨k+1,us++[x],.slice a6 (us.length+1) c6,by omega,by go_num,NA.out,NC.out,Tg UZ.out _,ND.out⟩
      case measure=>simp[intOf];omega
   ·obtain rfl:k=nu:=by omega
    have hr1:wr.heap[N+1]?=some Gq:=(Cn.out.block (N+1) (by omega) (by omega)).trans Nq.out;have hr2:wr.heap[N+1+1]?=some Fz:=(Cn.out.block (N+1+1) (by omega) (by omega)).trans Nr.out;obtain⟨d0,d1,_,_⟩:=vR H5.out;obtain⟨x0,x1,y0,y1⟩:=vR hr1;obtain⟨u0,u1,u2,v0,v1,v2⟩:=Er hr2;obtain⟨zf,AU,hv,_⟩:=FD.out.units;subst hv;obtain⟨hBw,zD⟩:=xJ.out _ lh.out;have NG:Hid (∀ a b c d e,aD ((((((wr.setCell ⟨N+1,0,none⟩ a).setCell ⟨N+1,1,none⟩ b).setCell ⟨N+1+1,0,none⟩ c).setCell ⟨N+1+1,1,none⟩ d).setCell ⟨N+1+1,2,none⟩ e)).heap.size (((((wr.setCell ⟨N+1,0,none⟩ a).setCell ⟨N+1,1,none⟩ b).setCell ⟨N+1+1,0,none⟩ c).setCell ⟨N+1+1,1,none⟩ d).setCell ⟨N+1+1,2,none⟩ e) (BZ m) ab zf):=fun a b c d e=>by
     have b1:jk wr (N+1) 25 2:=⟨_,hr1,rfl⟩;have b2:jk wr (N+1+1) 28 3:=⟨_,hr2,rfl⟩;have m1:=FD.out.set hBw (N5:=N+1) (by omega) (by omega) b1 (by decide) (by decide) 0 a;have m2:=m1.set (by simpa using hBw) (N5:=N+1) (by omega) (by omega) (b1.set _ _) (by decide) (by decide) 1 b;have m3:=m2.set (by simpa using hBw) (N5:=N+1+1) (by omega) (by omega) ((b2.set _ _).set _ _) (by decide) (by decide) 0 c;have m4:=m3.set (by simpa using hBw) (N5:=N+1+1) (by omega) (by omega) (((b2.set _ _).set _ _).set _ _) (by decide) (by decide) 1 d;have m5:=m4.set (by simpa using hBw) (N5:=N+1+1) (by omega) (by omega) ((((b2.set _ _).set _ _).set _ _).set _ _) (by decide) (by decide) 2 e;obtain⟨au2,cu2,e2,hM2⟩:=m5.units;cases e2;have e3:us.map (·.u)=m.units.map xU:=by rw[II.out,Cm.out,List.take_length]
     rw[e3] at hM2;have hf:=Iw (Below.refl B wr) (show B≤N by omega) a b c d e;refine⟨⟨zD.few.1,by show (m.units.map xU).length≤_;rw[List.length_map];exact zD.few.2⟩,fun i x hx=>?_,hM2⟩;obtain⟨h1,h2,bb,o,e,hb,c0⟩:=(zD.boxes.low (fun q hq=>hf.block q hq)) i x hx;exact⟨h1,h2,bb,o,e,by simp;omega,c0⟩
    have Eg:Hid ((BZ m).units.length=us.length∧(BZ m).boxes.length=m.boxes.length):=by
     refine⟨?_,rfl⟩;show (m.units.map xU).length=_
     rw[List.length_map,FE.out,Cm.out]
    have HF:Hid (∀ a b c d e,Below w.heap.size w (((((wr.setCell ⟨N+1,0,none⟩ a).setCell ⟨N+1,1,none⟩ b).setCell ⟨N+1+1,0,none⟩ c).setCell ⟨N+1+1,1,none⟩ d).setCell ⟨N+1+1,2,none⟩ e)):=fun a b c d e=>Iw lh.out (by rw[AQ.out];exact Nat.le_refl _) _ _ _ _ _;obtain⟨ul,yA⟩:∃ ul,ul=us.length:=⟨_,rfl⟩;rw[← yA] at d1;have NH:=hide yA;clear yA hr1 hr2 hlt;go_wp2
    exact bodyPost_ret (v:=.tuple #[.agg #[.slice ab m.boxes.length cb,.slice zf ul AU],gM 0 0 0]) (by simp[results,Tryz.results5,go_sem,x0,x1,u0,u1,u2]) rfl ⟨ab,cb,zf,AU,by rw[uH.out,← HR.out,Nl.out];simp only[AP];rw[Eg.out.1,← NH.out];rfl,by rw[uH.out];exact NG.out _ _ _ _ _,HF.out _ _ _ _ _⟩
 ·have e1:(r.1 != 0)=true:=by simpa using h0
  have uH:Hid (made m=⟨[],[]⟩):=by unfold made Hid;rw[← HR.out,if_neg h0]
  have HF:Hid (∀ W a b c d e,Below w.heap.size w W→Below w.heap.size w (((((W.setCell ⟨N+1,0,none⟩ a).setCell ⟨N+1,1,none⟩ b).setCell ⟨N+1+1,0,none⟩ c).setCell ⟨N+1+1,1,none⟩ d).setCell ⟨N+1+1,2,none⟩ e)):=fun W a b c d e h=>Iw h (by rw[AQ.out];exact Nat.le_refl _) _ _ _ _ _;clear h0;go_wp2
  go_region
  all_goals go_wp2
  all_goals exact bodyPost_ret (v:=.tuple #[AP ⟨[],[]⟩ none none 0 0,gM r.1 r.2.1 r.2.2]) (by simp[results,Tryz.results5,go_sem,x0,x1,u0,u1,u2]) rfl ⟨none,0,none,0,by rw[uH.out,HR.out],by rw[uH.out];exact Tf _ _,Below.drew (HF.out _ _ _ _ _ _ Es.out)⟩
end Go.Proofs.YtbdpdjcdhclbfaaGreat.Ow
