/- A right module without some of its tasks is right,plainly. -/
import Derived.Test.YthffafaoobpedaaGreatDoorM27
import Derived.Test.YthffafaoobpedaaGreatDoorM11
import Derived.Test.YthffafaoobpedaaGreatDoorM18
set_option maxRecDepth 100000
set_option maxHeartbeats 1000000
namespace Go.Proofs.YthffafaoobpedaaGreatDoor
namespace Vf
def FO:Un:=⟨4,0,[],0,0,[⟨1,0,1⟩,⟨28,0,0⟩,⟨25,0,0⟩]⟩
theorem Yf {m:Md}:verify m=(0,0,0) ↔ ∀ k,k < 6→(looks m k).1=0:=by
 have key:∀ n k,(from' m n k=(0,0,0)→∀ j,k≤j→j < k+n→(looks m j).1=0)∧((∀ j,k≤j→j < k+n→(looks m j).1=0)→from' m n k=(0,0,0)):=by
  intro n
  induction n with
  | zero=>intro k;exact ⟨fun _ j h1 h2=>by omega,fun _=>rfl⟩
  | succ n ih =>
   intro k
   have ih':=ih (k+1)
   refine ⟨fun h j h1 h2=>?_,fun h=>?_⟩
   ·unfold from' at h
    split at h
    ·rename_i h0
     by_cases hj:j=k
     ·rw [hj];exact h0
     ·exact ih'.1 h j (by omega) (by omega)
    ·rename_i h0
     exact absurd (by rw [h]) h0
   ·unfold from'
    rw [if_pos (h k (Nat.le_refl _) (by omega))]
    exact ih'.2 (fun j h1 h2=>h j (by omega) (by omega))
 exact ⟨fun h k hk=>(key 6 0).1 h k (Nat.zero_le _) (by omega),fun h=>(key 6 0).2 (fun j _ hj=>h j (by omega))⟩
structure iC (m n:Md):Prop where
 boxes:n.boxes=m.boxes
 len:n.units.length=m.units.length
 same:∀ (k:Nat) (u v:Un),m.units[k]?=some u→n.units[k]?=some v→v=u∨(u.kind=4∧v=FO)
theorem iC.at {m n:Md}(h:iC m n){k:Nat}{v:Un}(hv:n.units[k]?=some v):∃ u,m.units[k]?=some u∧(v=u∨(u.kind=4∧v=FO)):=by
 have hk:k < m.units.length:=by rw [← h.len];exact (List.getElem?_eq_some_iff.1 hv).1
 exact ⟨_,List.getElem?_eq_getElem hk,h.same k _ v (List.getElem?_eq_getElem hk) hv⟩
theorem iC.is {m n:Md}(h:iC m n)(kd a:Int):Vf.is n kd a=Vf.is m kd a:=by
 unfold Vf.is
 cases hn:n.units[a.toNat]? with
 | none =>
  have:m.units[a.toNat]?=none:=by
   rw [List.getElem?_eq_none_iff] at hn ⊢
   rw [← h.len]
   exact hn
  rw [this]
 | some v =>
  obtain ⟨u,hu,h1 | ⟨h1,h2⟩⟩:=h.at hn
  ·rw [hu,h1]
  ·rw [hu,h2]
   simp [FO,h1]
theorem iC.unit {m n:Md}(h:iC m n){kd a:Int}(hk:kd≠4)(hi:Vf.is m kd a=true):Vf.unit n a=Vf.unit m a:=by
 obtain ⟨u,hu,hkd,h0⟩:=kg hi
 have hi':Vf.is n kd a=true:=by rw [h.is];exact hi
 obtain ⟨v,hv,hkv,_⟩:=kg hi'
 unfold Vf.unit
 rw [hu,hv]
 rcases h.same _ u v hu hv with h1 | ⟨h1,_⟩
 ·rw [h1]
 ·exact absurd (hkd.symm.trans h1) hk
theorem iC.fM {m n:Md}(h:iC m n)(u:Un):Vf.fM n u=Vf.fM m u:=by
 unfold Vf.fM Vf.typed
 have:(fun t=>plain t || Vf.is n 3 (t - 10))=fun t=>plain t || Vf.is m 3 (t - 10):=by funext t;rw [h.is]
 rw [this]
theorem iC.ranged {m n:Md}(h:iC m n)(u:Un)(c:Ins):Vf.ranged n u c=Vf.ranged m u c:=by
 unfold Vf.ranged
 rw [h.is,h.is,h.boxes]
theorem iC.bD {m n:Md}(h:iC m n)(u:Un)(c:Ins):Vf.bD n u c=Vf.bD m u c:=by
 unfold Vf.bD
 rw [h.ranged]
theorem iC.dV {m n:Md}(h:iC m n){u:Un}{c:Ins}(hf:Vf.bD m u c=0){k:Kn}(hk:j6 m k.st):Vf.dV n u c k=Vf.dV m u c k:=by
 obtain ⟨_,_,hrg⟩:=oZ hf
 have hsp:Vf.speak n u c k.st=Vf.speak m u c k.st:=by
  unfold Vf.speak
  by_cases h23:c.op=23
  ·have h2:Vf.is m 2 c.a=true:=by
    rw [← hrg]
    unfold Vf.ranged
    rw [if_neg (by omega),if_neg (by omega),if_neg (by omega),if_pos h23]
   rw [if_pos h23,if_pos h23]
   unfold Vf.params
   rw [h.unit (by decide) h2]
  ·rw [if_neg h23,if_neg h23]
   by_cases gJ:c.op=29
   ·have h2:Vf.is m 3 c.a=true:=by
     rw [← hrg]
     unfold Vf.ranged
     rw [if_neg (by omega),if_neg (by omega),if_neg (by omega),if_neg (by omega),if_pos gJ]
    rw [if_pos gJ,if_pos gJ]
    unfold Vf.params
    rw [h.unit (by decide) h2]
   ·rw [if_neg gJ,if_neg gJ]
    have hb:Vf.gM n c.a=Vf.gM m c.a:=by unfold Vf.gM;rw [h.boxes]
    rw [hb]
    have hres:Vf.resume n k.st=Vf.resume m k.st:=by
     unfold Vf.resume
     cases hst:k.st with
     | nil=>rfl
     | cons p st1 =>
      show Vf.andThen (j4 st1) _=Vf.andThen (j4 st1) _
      cases st1 with
      | nil=>rfl
      | cons g st2 =>
       unfold j4 pop
       show Vf.andThen (if 10≤g then Except.ok (g,st2) else Except.error 9) _=Vf.andThen (if 10≤g then Except.ok (g,st2) else Except.error 9) _
       by_cases hg:10≤g
       ·rw [if_pos hg]
        have hgm:g ∈ k.st:=by rw [hst];simp
        rcases hk g hgm with h1 | ⟨_,h1⟩
        ·unfold plain at h1;simp at h1;omega
        ·show Vf.andThen (Vf.must (p == (Vf.unit n (g - 10)).takes) 9 st2) (Vf.put (Vf.unit n (g - 10)).result)=Vf.andThen (Vf.must (p == (Vf.unit m (g - 10)).takes) 9 st2) (Vf.put (Vf.unit m (g - 10)).result)
         rw [h.unit (by decide) h1]
       ·rw [if_neg hg]
        rfl
    rw [hres]
 unfold Vf.dV
 rw [hsp]
theorem iC.look {m n:Md}(h:iC m n){u:Un}(hf:Forms m u){i:Nat}{s:S}(hI:Inv m u s∨∀ k,s.come i=some k→j6 m k.st):Vf.look n u i s=Vf.look m u i s:=by
 unfold Vf.look
 cases hc:s.come i with
 | none=>rfl
 | some k =>
  cases hx:u.code[i]? with
  | none=>rfl
  | some c =>
   have hg:j6 m k.st:=by
    rcases hI with hI | hI
    ·exact (hI.come i k hc).2.1
    ·exact hI k hc
   show Vf.andThen (Vf.eB n u c k) _=Vf.andThen (Vf.eB m u c k) _
   unfold Vf.eB
   rw [h.dV (hf c (List.mem_of_getElem? hx)) hg]
theorem Yg {m:Md}{u:Un}(hR:Rt m)(hu:Vf.fM m u=0)(hf:Forms m u){i:Nat}{row:List Nat}{come:Nat→Option Kn}{s':S}(hI:Inv m u ⟨come,i :: row⟩)(h:Vf.look m u i ⟨come,row⟩=.ok s'):Inv m u s':=by
 have hI2:Inv m u ⟨come,row⟩:=⟨hI.come,fun j hj=>hI.row j (List.mem_cons_of_mem _ hj)⟩
 unfold Vf.look at h
 split at h
 ·rename_i k c hk hc
  unfold Vf.andThen at h
  split at h
  ·cases h
  ·rename_i k' hk'
   have hok:=hI.come i k hk
   have hfm:=hf c (List.mem_of_getElem? hc)
   exact Dt (Rx hR hu hfm hok.2 hk') hI2 (zZ hfm i) h
 ·cases h
  exact hI2
theorem iC.fV {m n:Md}(h:iC m n){u:Un}(hR:Rt m)(hu:Vf.fM m u=0)(hf:Forms m u):∀ (f:Nat) (s:S),Inv m u s→Vf.fV n u f s=Vf.fV m u f s
 | 0,_,_=>rfl
 | f+1,⟨come,[]⟩,_=>rfl
 | f+1,⟨come,i :: row⟩,hI=>by
  have hl:=h.look hf (i:=i) (s:=⟨come,row⟩) (.inr (fun k hk=>(hI.come i k hk).2.1))
  unfold Vf.fV
  simp only
  rw [hl]
  cases hr:Vf.look m u i ⟨come,row⟩ with
  | error e=>rfl
  | ok s'=>exact h.fV hR hu hf f s' (Yg hR hu hf hI hr)
theorem Yh {m:Md}{u:Un}(hu:Vf.fM m u=0):Inv m u (start u):=by
 obtain ⟨_,_,_,_,h5,_⟩:=jI (ig hu).2.1
 exact Ah ⟨fun i k hk=>(by cases hk),fun i hi=>(by cases hi)⟩ h5 ⟨fun t ht=>(by cases ht),by simp⟩
theorem iC.gN {m n:Md}(h:iC m n){u:Un}(hR:Rt m)(hu:Vf.fM m u=0)(hf:Forms m u):Vf.gN n u=Vf.gN m u:=h.fV hR hu hf _ _ (Yh hu)
end Vf
namespace Vm
open Vf
theorem jU (t:Tk)(v:Int):(t.put v).out=t.out∧((t.put v).over=t.over∨(t.put v).over=5):=by
 unfold Tk.put
 split
 ·exact ⟨rfl,.inr rfl⟩
 ·exact ⟨rfl,.inl rfl⟩
theorem Yi (m:Md)(t:Tk)(n:Nat):(t.call m n).out=t.out∧((t.call m n).over=t.over∨(t.call m n).over=5):=by
 unfold Tk.call
 split
 ·exact ⟨rfl,.inr rfl⟩
 ·split
  ·exact ⟨rfl,.inl rfl⟩
  ·exact ⟨rfl,.inr rfl⟩
theorem Yj (m:Md)(t:Tk)(n:Nat):(t.start m n).out=t.out∧((t.start m n).over=t.over∨(t.start m n).over=5):=by
 unfold Tk.start
 split
 ·exact ⟨rfl,.inr rfl⟩
 ·exact ⟨(jU _ _).1,(jU _ _).2⟩
theorem FP (t:Tk)(s:Nat)(v:Int):(t.give s v).out=t.out∧((t.give s v).over=t.over∨(t.give s v).over=5):=by
 unfold Tk.give
 exact ⟨(jU _ _).1,(jU _ _).2⟩
theorem Yk (t:Tk):t.fin.out=t.out∧(t.fin.over=t.over∨t.fin.over=4∨t.fin.over=5):=by
 unfold Tk.fin
 split
 ·exact ⟨rfl,.inr (.inl rfl)⟩
 ·exact ⟨(FP _ _ _).1,(FP _ _ _).2.imp id .inr⟩
theorem Yl (t:Tk):t.resume.out=t.out∧(t.resume.over=t.over∨t.resume.over=5):=by
 unfold Tk.resume
 dsimp only
 split
 ·exact ⟨rfl,.inr rfl⟩
 ·split
  ·exact ⟨rfl,.inr rfl⟩
  ·split
   ·exact ⟨(jU _ _).1,(jU _ _).2⟩
   ·exact ⟨rfl,.inl rfl⟩
theorem Ym (t:Tk)(op:Int):(t.reckon op).out=t.out∧((t.reckon op).over=t.over∨(t.reckon op).over=5):=by
 unfold Tk.reckon
 split
 ·exact ⟨rfl,.inr rfl⟩
 ·exact ⟨(jU _ _).1,(jU _ _).2⟩
theorem Yn (m:Md)(c:Ins)(t:Tk)(rv:Int):(t.act m c rv).out=(if c.op=28 then t.out ++ [t.last] else t.out)∧((t.act m c rv).over=t.over∨(t.act m c rv).over=4∨(t.act m c rv).over=5):=by
 have p:∀ {a b:Tk},b.out=a.out∧(b.over=a.over∨b.over=5)→a.out=t.out→a.over=t.over→c.op≠28→b.out=(if c.op=28 then t.out ++ [t.last] else t.out)∧(b.over=t.over∨b.over=4∨b.over=5):=fun h e1 e2 e3=>by
  rw [if_neg e3,← e1,← e2]
  exact ⟨h.1,h.2.imp id .inr⟩
 unfold Tk.act
 by_cases h1:c.op=1
 ·rw [if_pos h1];exact p (jU _ _) rfl rfl (by omega)
 rw [if_neg h1]
 by_cases h2:c.op=2
 ·rw [if_pos h2];exact p (jU _ _) rfl rfl (by omega)
 rw [if_neg h2]
 by_cases h3:c.op=3
 ·rw [if_pos h3];exact p (jU _ _) rfl rfl (by omega)
 rw [if_neg h3]
 by_cases h4:c.op=4
 ·rw [if_pos h4];exact p (a:=t) ⟨rfl,.inl rfl⟩ rfl rfl (by omega)
 rw [if_neg h4]
 by_cases h5:c.op=5
 ·rw [if_pos h5];exact p (a:=t) ⟨rfl,.inl rfl⟩ rfl rfl (by omega)
 rw [if_neg h5]
 by_cases h6:c.op=6
 ·rw [if_pos h6];exact p (jU _ _) rfl rfl (by omega)
 rw [if_neg h6]
 by_cases h7:c.op=7
 ·rw [if_pos h7];exact p (jU _ _) rfl rfl (by omega)
 rw [if_neg h7]
 by_cases h21:c.op=21
 ·rw [if_pos h21];exact p (a:=t) ⟨rfl,.inl rfl⟩ rfl rfl (by omega)
 rw [if_neg h21]
 by_cases h22:c.op=22
 ·rw [if_pos h22]
  split
  ·exact p (a:=t) ⟨rfl,.inl rfl⟩ rfl rfl (by omega)
  ·exact p (a:=t) ⟨rfl,.inl rfl⟩ rfl rfl (by omega)
 rw [if_neg h22]
 by_cases bE:c.op=26
 ·rw [if_pos bE];exact p (a:=t) ⟨rfl,.inl rfl⟩ rfl rfl (by omega)
 rw [if_neg bE]
 by_cases h27:c.op=27
 ·rw [if_pos h27];exact p (jU _ _) rfl rfl (by omega)
 rw [if_neg h27]
 by_cases ng:c.op=28
 ·rw [if_pos ng,if_pos ng];exact ⟨rfl,.inl rfl⟩
 rw [if_neg ng]
 by_cases h23:c.op=23
 ·rw [if_pos h23];exact p (Yi _ _ _) rfl rfl (by omega)
 rw [if_neg h23]
 by_cases iL:c.op=24
 ·rw [if_pos iL];exact p (jU _ _) rfl rfl (by omega)
 rw [if_neg iL]
 by_cases gJ:c.op=29
 ·rw [if_pos gJ];exact p (Yj _ _ _) rfl rfl (by omega)
 rw [if_neg gJ]
 by_cases l8:c.op=30
 ·rw [if_pos l8];exact p (Yl _) rfl rfl (by omega)
 rw [if_neg l8]
 by_cases h31:c.op=31
 ·rw [if_pos h31];exact p (FP _ _ _) rfl rfl (by omega)
 rw [if_neg h31]
 by_cases l9:c.op=25
 ·rw [if_pos l9,if_neg (by omega)];exact Yk t
 rw [if_neg l9]
 by_cases h32:c.op=32
 ·rw [if_pos h32];exact p (jU _ _) rfl rfl (by omega)
 rw [if_neg h32]
 exact p (Ym _ _) rfl rfl (by omega)
theorem Yo {m:Md}(h:verify m=(0,0,0)):(∃ K,lZ m K)∧m.boxes.length≤30:=by
 have hl:=Yf.1 h
 obtain ⟨hR,hb⟩:=Bj (hl 0 (by omega)) (hl 1 (by omega)) (hl 2 (by omega))
 refine ⟨?_,hb⟩
 have key:∀ n:Nat,∃ K:Nat→Option Kn,∀ u,m.units[n]?=some u→Fix m u K:=fun n=>by
  cases hu:m.units[n]? with
  | none=>exact ⟨fun _=>none,fun u e=>by cases e⟩
  | some u =>
   obtain ⟨hh,hf⟩:=hR.heads n u hu
   have hz:=jI (ig hh).2.1
   obtain ⟨K,hK⟩:=RA hf (by omega) (FM _ _ _ (show (jA (gN m) m.units 0).1=0 from hl 4 (by omega)) u (List.mem_of_getElem? hu))
   exact ⟨K,fun u' e=>by cases e;exact hK⟩
 exact ⟨fun n=>(key n).choose,hR,fun n u hu=>(key n).choose_spec u hu⟩
theorem Yp {m:Md}{K:KM}{G:List Nat}{t:Tk}{st:List Int}(hK:lZ m K)(hM:Mid m K G t st st)(ho:(t.ins m).op=26):WT G (gM m (t.ins m).a) (t.goto (t.frame.pc+1)).last:=by
 obtain ⟨h,f,r,u,c,k,k',H⟩:=hM.here hK
 rw [H.ins] at ho ⊢
 rw [H.frame]
 have hN:=H.next hM (by omega) (by omega) (by omega) (by omega)
 have hr:=H.eB
 unfold dV speak at hr
 simp only [ho] at hr
 simp at hr
 have e:=su hr
 rw [H.bC] at e
 rw [e] at hN
 exact hN.cut.2
end Vm
end Go.Proofs.YthffafaoobpedaaGreatDoor
namespace Go.Proofs.YthffafaoobpedaaGreatDoor.Vw
def kN (v:Int):Bool:=v == 0 || v == 1
theorem Nl {v:Int}:kN v=true ↔ v=0∨v=1:=by simp [kN]
end Go.Proofs.YthffafaoobpedaaGreatDoor.Vw
namespace Go.Proofs.YthffafaoobpedaaGreatDoor.Vw
open Go.RowKit Vf Vm
def FQ (w:World)(l:List Int)(b:Bool)(k:Nat)(wr:World):Prop:=k≤l.length∧w=wr∧b=(l.drop k).all kN
theorem Yq (l:List Int)(a:Option Addr)(cap:Nat)(w:World)(hin:Hid (∀ (i:Nat) v,l[i]?=some v→∃ b off,a=some ⟨b,off,none⟩∧w.cell? ⟨b,off+i,none⟩=some (.int .i64 v)))(dx:l.length≤9223372036854775806)(b:Bool)(hb:Hid (b=l.all kN)) :
  Calls Tryz.prog 34 #[.slice a l.length cap] w fun e w'=>e=.returned (.bool b)∧w'=w:=by
 have HST:Hid (FQ w l b 0 w):=⟨Nat.zero_le _,rfl,hb.out⟩
 go_enter Tryz.func34,Tryz.ntmps34
 go_wp2
 go_loopw [7] (fun v wr=>∃ k:Nat,v=.int .i64 k∧FQ w l b k wr) (fun v _=>l.length - (intOf v).toNat)
 case atStart=>exact ⟨0,rfl,HST.out⟩
 case round =>
  obtain ⟨k,rfl,hk,rfl,hbk⟩:=hrel
  have FR:=Sb.hide hbk
  clear hbk HST hb
  by_cases hlt:k < l.length
  ·obtain ⟨v,hv⟩:∃ v,l[k]?=some v:=⟨_,List.getElem?_eq_getElem hlt⟩
   obtain ⟨b0,off,rfl,hc⟩:=hin.out k v hv
   have hdr:l.drop k=v :: l.drop (k+1):=by
    rw [List.drop_eq_getElem_cons hlt]
    rw [List.getElem?_eq_getElem hlt] at hv
    cases hv;rfl
   have HDR:=Sb.hide hdr
   obtain ⟨m,hm⟩:∃ m,m=l.length:=⟨_,rfl⟩
   have HM:=Sb.hide hm
   rw [← hm] at hlt dx ⊢
   have n0:(0:Int)≤(k:Int):=by omega
   have n1:(k:Int) < (m:Int):=by omega
   clear hdr hv hm
   by_cases h01:v=0∨v=1
   ·have dI:Hid (FQ w l b (k+1) w):=⟨by have:=HM.out;omega,rfl,by
     rw [FR.out,HDR.out,List.all_cons]
     rcases h01 with e | e <;> simp [kN,e]⟩
    rcases h01 with rfl | rfl
    ·go_wp2
     go_roundw
     case rel=>exact ⟨k+1,by go_num,dI.out⟩
     case measure=>simp [intOf];omega
    ·go_wp2
     go_roundw
     case rel=>exact ⟨k+1,by go_num,dI.out⟩
     case measure=>simp [intOf];omega
   ·have e0:(v == 0)=false:=by simp;omega
    have e1:(v == 1)=false:=by simp;omega
    have HF:Hid (b=false):=by
     unfold Hid
     rw [FR.out,HDR.out,List.all_cons]
     simp [kN,e0,e1]
    have d0:(v != 0)=true:=by simp;omega
    have d1:(v != 1)=true:=by simp;omega
    clear e0 e1 h01
    go_wp2
    go_ret
    exact ⟨by rw [HF.out];rfl,rfl⟩
  ·have HF:Hid (b=true):=by
    unfold Hid
    rw [FR.out,List.drop_eq_nil_of_le (by omega)]
    rfl
   have n1:¬ (k:Int) < (l.length:Int):=by omega
   go_wp2
   go_ret
   exact ⟨by rw [HF.out];rfl,rfl⟩
end Go.Proofs.YthffafaoobpedaaGreatDoor.Vw
