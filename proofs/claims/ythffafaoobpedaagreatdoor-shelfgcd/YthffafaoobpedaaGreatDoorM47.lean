/- The walk of ShelfGcd. -/
import Derived.Test.YthffafaoobpedaaGreatDoorM46
set_option maxRecDepth 100000
set_option maxHeartbeats 1000000
namespace Go.Proofs.YthffafaoobpedaaGreatDoor.Vw
open Go.RowKit Vf Vm
theorem Di (x y:Int):∀ (k:Nat) (p:List Int),p.length=2 * k→ib (p ++ [x,y])=ib p ++ [((Nat.gcd x.toNat y.toNat:Nat):Int)]∧ib (p ++ [x])=ib p∧(ib p).length=k∧(qK p→0≤x∧0≤y→qK (p ++ [x,y]))∧(qK p→qK (p ++ [x]))
 | 0,p,h=>by
  have:p=[]:=List.eq_nil_of_length_eq_zero (by omega)
  subst this
  exact ⟨rfl,rfl,rfl,fun _ h=>⟨h,trivial⟩,fun _=>trivial⟩
 | k+1,[],h=>by simp at h
 | k+1,[a],h=>by simp at h;omega
 | k+1,a :: b :: p,h=>by
  obtain ⟨h1,h2,h3,h4,h5⟩:=Di x y k p (by simp at h;omega)
  refine ⟨?_,?_,by simp [ib,h3],fun hp hy=>⟨hp.1,h4 hp.2 hy⟩,fun hp=>⟨hp.1,h5 hp.2⟩⟩
  ·show _ :: ib (p ++ [x,y])=_
   rw [h1];rfl
  ·show _ :: ib (p ++ [x])=_
   rw [h2];rfl
def oV (X Y:Nat):Nat→Nat
 | 0=>0
 | k+1=>if ((X % (k+1) == 0 && Y % (k+1) == 0) && decide (0 < X+Y))=true then k+1 else oV X Y k
theorem Ra:∀ k,oV 0 0 k=0
 | 0=>rfl
 | k+1=>by
  unfold oV
  rw [if_neg (by simp)]
  exact Ra k
theorem Rb {X Y:Nat}(h:0 < X+Y):∀ j,oV X Y (Nat.gcd X Y+j)=Nat.gcd X Y
 | 0=>by
  have hg:0 < Nat.gcd X Y:=Nat.gcd_pos_iff.2 (by omega)
  obtain ⟨g,hgg⟩:∃ g,Nat.gcd X Y=g+1:=⟨Nat.gcd X Y - 1,by omega⟩
  have h1:X % (g+1)=0:=by rw [← hgg];exact Nat.mod_eq_zero_of_dvd (Nat.gcd_dvd_left X Y)
  have h2:Y % (g+1)=0:=by rw [← hgg];exact Nat.mod_eq_zero_of_dvd (Nat.gcd_dvd_right X Y)
  rw [Nat.add_zero,hgg]
  unfold oV
  rw [if_pos (by rw [h1,h2,decide_eq_true h];rfl)]
 | j+1=>by
  rw [show Nat.gcd X Y+(j+1)=(Nat.gcd X Y+j)+1 by omega]
  unfold oV
  rw [if_neg,Rb h j]
  intro hc
  rw [Bool.and_eq_true,Bool.and_eq_true] at hc
  have h1:X % (Nat.gcd X Y+j+1)=0:=by simpa using hc.1.1
  have h2:Y % (Nat.gcd X Y+j+1)=0:=by simpa using hc.1.2
  have h3:=Nat.dvd_gcd (Nat.dvd_of_mod_eq_zero h1) (Nat.dvd_of_mod_eq_zero h2)
  have h4:=Nat.le_of_dvd (Nat.gcd_pos_iff.2 (by omega)) h3
  omega
theorem adl {X Y:Nat}(hX:X≤1000)(hY:Y≤1000):oV X Y 1000=Nat.gcd X Y:=by
 by_cases h:0 < X+Y
 ·have h1:Nat.gcd X Y≤1000:=by
   by_cases hx:0 < X
   ·exact Nat.le_trans (Nat.le_of_dvd hx (Nat.gcd_dvd_left X Y)) hX
   ·exact Nat.le_trans (Nat.le_of_dvd (by omega) (Nat.gcd_dvd_right X Y)) hY
  have:=Rb h (1000 - Nat.gcd X Y)
  rwa [show Nat.gcd X Y+(1000 - Nat.gcd X Y)=1000 by omega] at this
 ·have h1:X=0:=by omega
  have h2:Y=0:=by omega
  subst h1 h2
  exact Ra 1000
def lU (X Y kk g:Nat):Prop:=g=oV X Y kk
theorem lU.yes {X Y kk:Nat}(h1:X % (kk+1)=0)(h2:Y % (kk+1)=0)(h3:0 < X+Y):lU X Y (kk+1) (kk+1):=by
 unfold lU oV
 rw [if_pos (by rw [h1,h2,decide_eq_true h3];rfl)]
theorem lU.no {X Y kk g:Nat}(h:lU X Y kk g)(hn:X % (kk+1)≠0∨Y % (kk+1)≠0∨¬ 0 < X+Y):lU X Y (kk+1) g:=by
 unfold lU oV
 rw [if_neg]
 ·exact h
 ·intro hc
  rw [Bool.and_eq_true,Bool.and_eq_true] at hc
  have h1:X % (kk+1)=0:=by simpa using hc.1.1
  have h2:Y % (kk+1)=0:=by simpa using hc.1.2
  have h3:0 < X+Y:=by simpa using hc.2
  omega
theorem Rc (X D:Nat):((X:Int) % (D:Int) == 0)=(X % D == 0)∧((X:Int).tmod (D:Int) == 0)=(X % D == 0):=by
 have key:((X:Int) % (D:Int) == 0)=(X % D == 0):=by
  rw [← Int.natCast_emod]
  generalize X % D=m
  cases m with
  | zero=>rfl
  | succ m=>rfl
 exact ⟨key,by rw [Int.tmod_eq_emod_of_nonneg (by omega)];exact key⟩
def Re (l:List Int)(w:World)(i k:Nat)(vl:Value)(wr:World):Prop:=i=2 * k∧i≤l.length∧qK (l.take i)∧Below w.heap.size w wr∧wr.ownsRow w.heap.size 2 1 vl k (ints (ib (l.take i)))
theorem adm (l:List Int)(a:Option Addr)(c:Nat)(w:World)(hw:Hid (In64 w w.heap.size a l))(hn:l.length≤9223372036854775807)(hT:Hid (Xe.oQ w)) :
  Calls Tryz.prog 4 #[.slice a l.length c] w fun e w'=>e=.returned (.bool true)∧Below w.heap.size w w':=by
 obtain ⟨i0,hi,hz0,hz1,hz2⟩:=info_parts acJ
 go_enter Tryz.func4,Tryz.ntmps4
 go_wp2_with fail
 refine (adj l a c w 1000 ⟨by decide,by decide⟩ hw hn).mono ?_
 rintro e w0 ⟨rfl,d0,hw0⟩
 have HB0:Hid (Below w.heap.size w w0):=by unfold Hid;rw [hw0];exact below_drewN (Below.refl _ w) d0
 clear hw0
 cases hsm:kX 1000 l with
 | true =>
  have hl:=Q6 hsm
  have Dj:Hid (∀ v ∈ l,v≤1000):=fun v hv=>(Q7 hsm v hv).2
  clear hsm
  go_wp2
  go_loopw [3,4] (fun vl v wr=>∃ i k:Nat,v=.int .i64 i∧Re l w i k vl wr) (fun _ v _=>l.length - (intOf v).toNat)
  case atStart=>exact ⟨0,0,rfl,rfl,Nat.zero_le _,trivial,HB0.out,⟨rfl,.inl ⟨rfl,rfl⟩⟩⟩
  case round =>
   obtain ⟨i,k,rfl,hik,hk,hpo,hb,hown⟩:=hrel
   have HB:=Sb.hide hb
   have HO:=Sb.hide hown
   have pY:=Sb.hide hik
   have I9:=Sb.hide hpo
   have hbz:=hb.size
   have hki:k≤i:=by omega
   clear hb hown hik hpo
   by_cases hlt:i+1 < l.length
   ·obtain ⟨x,hx⟩:∃ x,l[i]?=some x:=⟨_,List.getElem?_eq_getElem (by omega)⟩
    obtain ⟨y,hy⟩:∃ y,l[i+1]?=some y:=⟨_,List.getElem?_eq_getElem hlt⟩
    obtain ⟨b,off,ha,hbw,hc⟩:=(hw.out.below HB.out) i x hx
    obtain ⟨b2,qU,ha2,_,hc2⟩:=(hw.out.below HB.out) (i+1) y hy
    rw [ha] at ha2
    cases ha2
    have HX:Hid (l.take (i+2)=l.take i ++ [x,y]):=by
     unfold Hid
     rw [show i+2=(i+1)+1 by rfl,List.take_add_one,List.take_add_one,hx,hy]
     simp
    have HAP:=Sb.hide (Di x y k (l.take i) (by rw [List.length_take,← pY.out];omega))
    have hx1:=Dj.out x (List.mem_of_getElem? hx)
    have hy1:=Dj.out y (List.mem_of_getElem? hy)
    obtain ⟨ml,di⟩:∃ m,m=l.length:=⟨_,rfl⟩
    rw [ha,← di]
    rw [← di] at hlt hl hn hk
    have kJ:=Sb.hide di
    have n0:(0:Int)≤(i:Int):=by omega
    have n2:(i:Int)+1 < (ml:Int):=by omega
    have n4:(i:Int) < (ml:Int):=by omega
    have n5:(0:Int)≤(i:Int)+1:=by omega
    have hwr:IntKind.i64.wrap ((i:Int)+1)=(i:Int)+1:=IntWalk.i64_in _ ⟨by omega,by omega⟩
    have htn:((i:Int)+1).toNat=i+1:=by omega
    obtain ⟨os,hos⟩:∃ os,os=ints (ib (l.take i)):=⟨_,rfl⟩
    have ug:Hid (wr.ownsRow w.heap.size 2 1 u3 k os):=by unfold Hid;rw [hos];exact HO.out
    have HOS:=Sb.hide hos
    clear di ha hx hy hos HO
    go_upto_region 7 with fail
    go_quiet (fail)
    have Dk:Hid (Below w.heap.size w (wr.drewN nq)):=below_drewN HB.out nq
    have HOW:Hid ((wr.drewN nq).ownsRow w.heap.size 2 1 u3 k os):=ug.out
    have Rf:w.heap.size≤(wr.drewN nq).heap.size:=hbz
    generalize wr.drewN nq=W1 at Dk HOW Rf ⊢
    clear HB ug hc hc2 hbz
    by_cases h1:x < 0
    ·go_wp2
     go_ret
     exact ⟨rfl,Dk.out⟩
    ·by_cases h2:y < 0
     ·go_wp2
      go_ret
      exact ⟨rfl,Dk.out⟩
     ·obtain ⟨X,rfl⟩:∃ X:Nat,x=X:=⟨x.toNat,by omega⟩
      obtain ⟨Y,rfl⟩:∃ Y:Nat,y=Y:=⟨y.toNat,by omega⟩
      go_wp2
      go_loopw [7,8] (fun vg vd wr=>∃ kk g D:Nat,D≤1001∧D=kk+1∧vg=.int .i64 g∧vd=.int .i64 D∧Hid (lU X Y kk g)∧wr=W1) (fun _ v _=>1001 - (intOf v).toNat)
      case atStart=>exact ⟨0,0,1,by decide,rfl,rfl,rfl,rfl,rfl⟩
      case round =>
       obtain ⟨kk,g,D,hD1,hD,rfl,rfl,HG,rfl⟩:=hrel
       have hD0:¬ (D:Int)=0:=by omega
       have hD2:(1:Int)≤(D:Int):=by omega
       have HD:=Sb.hide hD
       by_cases hlast:D≤1000
       ·have m1:(D:Int)≤1000:=by omega
        obtain ⟨qx,px⟩:=Rc X D
        obtain ⟨qy,py⟩:=Rc Y D
        clear hD
        cases hbx:(X % D == 0) with
        | false =>
         have lF:Hid (lU X Y D g):=by
          unfold Hid;rw [HD.out]
          refine HG.out.no (.inl ?_)
          rw [← HD.out];simpa using hbx
         rw [hbx] at qx px
         clear hbx qy py
         go_wp2
         go_roundw
         case rel=>exact ⟨D,g,D+1,by omega,rfl,rfl,by go_num,lF,trivial⟩
         case measure=>simp [intOf];omega
        | true =>
         cases hby:(Y % D == 0) with
         | false =>
          have lF:Hid (lU X Y D g):=by
           unfold Hid;rw [HD.out]
           refine HG.out.no (.inr (.inl ?_))
           rw [← HD.out];simpa using hby
          rw [hbx] at qx px
          rw [hby] at qy py
          clear hbx hby
          go_wp2
          go_roundw
          case rel=>exact ⟨D,g,D+1,by omega,rfl,rfl,by go_num,lF,trivial⟩
          case measure=>simp [intOf];omega
         | true =>
          by_cases hs:0 < X+Y
          ·have lF:Hid (lU X Y D D):=by
            have h7:X % D=0:=by simpa using hbx
            have h8:Y % D=0:=by simpa using hby
            unfold Hid;rw [HD.out] at h7 h8 ⊢
            exact lU.yes h7 h8 hs
           have hs2:(0:Int) < (X:Int)+(Y:Int):=by omega
           rw [hbx] at qx px
           rw [hby] at qy py
           clear hbx hby hs
           go_wp2
           go_roundw
           case rel=>exact ⟨D,D,D+1,by omega,rfl,rfl,by go_num,lF,trivial⟩
           case measure=>simp [intOf];omega
          ·have lF:Hid (lU X Y D g):=by
            unfold Hid;rw [HD.out]
            exact HG.out.no (.inr (.inr hs))
           have hs2:¬ (0:Int) < (X:Int)+(Y:Int):=by omega
           rw [hbx] at qx px
           rw [hby] at qy py
           clear hbx hby hs
           go_wp2
           go_roundw
           case rel=>exact ⟨D,g,D+1,by omega,rfl,rfl,by go_num,lF,trivial⟩
           case measure=>simp [intOf];omega
       ·have m1:¬ (D:Int)≤1000:=by omega
        have hgx:g=Nat.gcd X Y:=by
         have e:kk=1000:=by omega
         have:=HG.out
         rw [e] at this
         exact this.trans (adl (by omega) (by omega))
        have HGX:=Sb.hide hgx
        clear hgx hD
        have HRW:Hid ((wr.alloc (.cells #[.int .i64 (g:Int)] 2)).ownsRow w.heap.size 2 1 u3 k os):=HOW.out.alloc _
        go_wp2_with (at_builtin;refine vE rfl (.tmp 55) (.tmp 57) 22 rfl w.heap.size 2 i0 (.int .i64 0) 1 8 Tryz.underlying22 hi hz0 hz1 hz2 rfl (by decide) u3 k os rfl HRW.out ⟨wr.heap.size,0,none⟩ 1 1 [.int .i64 (g:Int)] rfl rfl (kg wr _ _) (ko rfl) (by decide) (by unfold maxLen;omega) (by omega) (by simp;omega) ?_)
        intro R4 cap4 w4 bK hg4 bH
        have dV:Hid (Re l w (i+2) (k+1) (.slice (some ⟨R4,0,none⟩) (k+1) cap4) w4):=by
         obtain ⟨a1,a2,a3,a4,a5⟩:=HAP.out
         refine ⟨by have:=pY.out;omega,by have:=kJ.out;omega,by rw [HX.out];exact a4 I9.out ⟨by omega,by omega⟩,(Dk.out.alloc Rf _).grown hg4 (by simp;omega) (fun b hb=>(HOW.out.lt b hb).1),?_⟩
         rw [HX.out,a1,show ∀ z:Int,ints (ib (l.take i) ++ [z])=ints (ib (l.take i)) ++ [.int .i64 z] by intro z;simp,← HOS.out,show ((X:Nat):Int).toNat=X by simp,show ((Y:Nat):Int).toNat=Y by simp,← HGX.out]
         exact bK
        clear bK hg4 bH
        go_wp2
        go_roundw
        case rel=>exact ⟨i+2,k+1,by go_num,dV.out⟩
        case measure=>simp [intOf];omega
   ·have n3:¬ (i:Int)+1 < (l.length:Int):=by omega
    have hfin:ib (l.take i)=ib l∧qK l:=by
     rcases Nat.lt_or_ge i l.length with h | h
     ·obtain ⟨x,hx⟩:∃ x,l[i]?=some x:=⟨_,List.getElem?_eq_getElem h⟩
      have e:l=l.take i ++ [x]:=by
       have h1:l.take (i+1)=l:=List.take_of_length_le (by omega)
       rw [List.take_add_one,hx] at h1
       exact h1.symm
      obtain ⟨_,a2,_,_,a5⟩:=Di x x k (l.take i) (by rw [List.length_take,← pY.out];omega)
      have h5:=a5 I9.out
      rw [← e] at a2 h5
      exact ⟨a2.symm,h5⟩
     ·have h1:=I9.out
      rw [List.take_of_length_le h] at h1
      rw [List.take_of_length_le h]
      exact ⟨rfl,h1⟩
    have hO:=HO.out
    have hlen:=(Di 0 0 k (l.take i) (by rw [List.length_take,← pY.out];omega)).2.2.1
    have Rh:=Sb.hide hfin.2
    rw [hfin.1] at hO hlen
    rw [← hlen] at hO
    have HV:=Sb.hide (zg hO)
    have HA:Hid (Below wr.heap.size wr (wr.alloc (.cells #[.slice a l.length c] 22))):=(Below.refl _ wr).alloc (Nat.le_refl _) _
    have HB2:Hid (Below w.heap.size w (wr.alloc (.cells #[.slice a l.length c] 22))):=HB.out.alloc hbz _
    have HF:=Sb.hide (acI (c:=c) hw.out (by omega) HB.out)
    have HT2:=Sb.hide (hT.out.below HB2.out)
    have HV2:=Sb.hide (HV.out.below HA.out)
    have gJ:=Sb.hide hlen
    clear hO HA hfin hlen
    go_wp2_with fail
    refine (acn adg [l] (some ⟨wr.heap.size,0,none⟩) 1 (fun _=>a) (fun _=>c) (ib l) u3 _ HT2 HF (adf l) HV2 (Q5 l hl Rh.out Dj.out).1 (Q5 l hl Rh.out Dj.out).2 (by rw [gJ.out];omega)).mono ?_
    rintro e w5 ⟨rfl,hb5⟩
    have yG:=Sb.hide (HB2.out.trans (hb5.mono HB2.out.size))
    clear hb5
    go_wp2
    go_ret
    exact ⟨rfl,yG.out⟩
 | false =>
  clear hsm
  go_wp2
  go_ret
  exact ⟨rfl,HB0.out⟩
end Go.Proofs.YthffafaoobpedaaGreatDoor.Vw
