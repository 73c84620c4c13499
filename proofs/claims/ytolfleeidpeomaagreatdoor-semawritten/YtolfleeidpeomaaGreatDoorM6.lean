/- The walks of the reader's enter,leave,of isOneOf,of what begins what,and of limit. -/
import Derived.Test.YtolfleeidpeomaaGreatDoorM5
set_option maxRecDepth 100000
set_option maxHeartbeats 1000000
namespace Go.Proofs.YtolfleeidpeomaaGreatDoor
open Go.RowKit
theorem RD.LU {w:World}{R:Nat}{ta:Option Addr}{tc:Nat}{l:List Lx.Tk}{p en:Nat}{mv:Value}{op:Int}(h:RD w R ta tc l p en mv op) :
  w.cell? ⟨R,4,none⟩=some (.int .i64 op)∧w.frozen? ⟨R,4,none⟩=false:=by
 unfold RD at h
 simp [World.cell?,World.frozen?,h]
theorem RD.LV {w:World}{R:Nat}{ta:Option Addr}{tc:Nat}{l:List Lx.Tk}{p en:Nat}{mv:Value}{op op':Int}(h:RD w R ta tc l p en mv op){v:Int}(hv:v=op'):RD (w.setCell ⟨R,4,none⟩ (.int .i64 v)) R ta tc l p en mv op':=by
 subst hv
 unfold RD at *
 simp only [World.setCell,Array.getElem?_modify,if_true,h,Option.map_some]
 rfl
theorem LW (B R:Nat)(ta:Option Addr)(tc:Nat)(l:List Lx.Tk)(p en:Nat)(mv:Value)(op:Int)(t:Lx.Tk)(w:World)(hR:Hid (RD w R ta tc l p en mv op))(hT:Hid (gq B w l ta))(hB:B≤R)(hp:p≤l.length)(ht:Hid (t=pk l p en))(h0:0≤op)(h1:op≤200) :
  Calls Tryz.prog 103 #[.pointer (some ⟨R,0,none⟩)] w fun e w'=>vz R ta tc l en mv (op+1) w (.tuple #[]) (if op=200 then .error (4,t.pos) else .ok p) e w':=by
 obtain ⟨c4,f4⟩:=hR.out.LU
 have hRl:=hR.out.lt
 obtain ⟨r,hr⟩:∃ r:Except (Int × Nat) Nat,r=if op=200 then .error (4,t.pos) else .ok p:=⟨_,rfl⟩
 rw [← hr]
 have HG:Hid (w.grownBy (w.setCell ⟨R,4,none⟩ (.int .i64 (op+1))) (some R)):=gQ _ _ _ _
 have H1:Hid (RD (w.setCell ⟨R,4,none⟩ (.int .i64 (op+1))) R ta tc l p en mv (op+1)):=hR.out.LV rfl
 have HT1:Hid (gq B (w.setCell ⟨R,4,none⟩ (.int .i64 (op+1))) l ta):=hT.out.grown HG.out hB hRl
 by_cases h2:op=200
 ·have HR2:Hid (r=.error (4,t.pos)):=by rw [hr,if_pos h2];rfl
  have g2:200<op+1:=by omega
  clear hr h2
  go_enter Tryz.func103,Tryz.ntmps103
  go_wp2_with fail
  refine (tV B R ta tc l p en mv (op+1) 4 t _ H1 HT1 hB hp ht).mono ?_
  rintro e w3 ⟨rfl,hb3⟩
  have aK:Hid (w.grownBy w3 (some R)):=rP HG.out hb3
  have HD:Hid (RD w3 R ta tc l p en mv (op+1)):=H1.out.on hb3
  clear hb3
  go_wp2
  exact ⟨rfl,aK.out,by rw [HR2.out];exact ⟨rfl,_,_,HD.out,Int.le_refl _,by omega⟩⟩
 ·have HR2:Hid (r=.ok p):=by rw [hr,if_neg h2];rfl
  have g2:op+1≤200:=by omega
  clear hr h2
  go_enter Tryz.func103,Tryz.ntmps103
  go_wp2
  go_end0
  exact ⟨HG.out,by rw [HR2.out];exact ⟨rfl,H1.out⟩⟩
def oneOf (s:ByteArray)(xs:List ByteArray):Bool:=xs.any fun x=>decide (x=s)
theorem VA {s:ByteArray}{xs:List ByteArray}{k:Nat}{x:ByteArray}(h:xs[k]?=some x):oneOf s (xs.drop k)=(decide (x=s) || oneOf s (xs.drop (k+1))):=by
 obtain ⟨hk,rfl⟩:=List.getElem?_eq_some_iff.1 h
 unfold oneOf
 rw [List.drop_eq_getElem_cons hk,List.any_cons]
theorem FB (s:ByteArray)(xs:List ByteArray)(A c:Nat)(b:Bool)(w:World)(hl:xs.length≤100)(hx:Hid (∀ j x,xs[j]?=some x→w.cell? ⟨A,j,none⟩=some (.string x)))(hb:Hid (b=oneOf s xs)) :
  Calls Tryz.prog 65 #[.string s,.slice (some ⟨A,0,none⟩) xs.length c] w fun e w'=>e=.returned (.bool b)∧w'=w:=by
 go_enter Tryz.func65,Tryz.ntmps65
 go_wp2
 go_loopw [9] (fun i wr=>∃ k:Nat,k≤xs.length∧i=.int .i64 k∧wr=w∧Hid (b=oneOf s (xs.drop k))) (fun i _=>xs.length - (intOf i).toNat)
 case atStart=>exact ⟨0,Nat.zero_le _,rfl,rfl,by rw [List.drop_zero];exact hb⟩
 case round =>
  obtain ⟨k,hk,rfl,rfl,HO⟩:=hrel
  by_cases hlt:k<xs.length
  ·obtain ⟨x,hxk⟩:∃ x,xs[k]?=some x:=⟨_,List.getElem?_eq_getElem hlt⟩
   have q:=hx.out k x hxk
   have aP:Hid (b=(decide (x=s) || oneOf s (xs.drop (k+1)))):=HO.out.trans (VA hxk)
   cases hd:decide (x=s) with
   | true =>
    have e1:(x.toList==s.toList)=true:=vw hd.symm
    have HB:Hid (b=true):=by rw [aP.out,hd];rfl
    clear hd hxk
    go_wp2
    go_ret
    exact ⟨by rw [HB.out];rfl,rfl⟩
   | false =>
    have e1:(x.toList==s.toList)=false:=vw hd.symm
    have HB:Hid (b=oneOf s (xs.drop (k+1))):=by rw [aP.out,hd];rfl
    clear hd hxk
    go_wp2
    go_roundw
    case rel=>exact ⟨k+1,by omega,by go_num,trivial,HB⟩
    case measure=>simp [intOf];omega
  ·have HB:Hid (b=false):=by
    have:=HO.out
    rw [List.drop_of_length_le (by omega)] at this
    exact this
   go_wp2
   go_ret
   exact ⟨by rw [HB.out];rfl,rfl⟩
def tZ:List ByteArray:=[⟨#[98,111,120]⟩,⟨#[102,110]⟩,⟨#[103,101,110]⟩,⟨#[116,97,115,107]⟩]
def rR:List ByteArray:=[⟨#[108,101,116]⟩,⟨#[105,102]⟩,⟨#[119,104,105,108,101]⟩,⟨#[114,101,116,117,114,110]⟩,⟨#[115,116,111,112]⟩,⟨#[115,101,110,100]⟩,⟨#[111,117,116]⟩,⟨#[100,111]⟩]
theorem FC (w:World)(xs:List ByteArray):∀ j x,xs[j]?=some x→(w.alloc (.cells (xs.map Value.string).toArray 9)).cell? ⟨w.heap.size,j,none⟩=some (.string x):=by
 intro j x hx
 rw [World.cell?_alloc_mark]
 simp [hx]
theorem VB (t:Lx.Tk)(w:World)(hz:t.text.size≤maxLen) :
  Calls Tryz.prog 125 #[tT t] w fun e w'=>e=.returned (.bool (Lx.named t.text.toList))∧Below w.heap.size w w':=by
 obtain ⟨b,hb⟩:∃ b,b=Lx.named t.text.toList:=⟨_,rfl⟩
 have HB:Hid (Lx.named t.text.toList=b):=hb.symm
 rw [← hb]
 clear hb
 go_enter Tryz.func125,Tryz.ntmps125
 go_wp2_with fail
 refine (rH t.text _ hz).mono ?_
 rintro e w2 ⟨he,rfl⟩
 rw [HB.out] at he
 subst he
 go_wp2
 go_ret
 exact ⟨rfl,(Below.refl _ w).alloc (Nat.le_refl _) _⟩
theorem VC (t:Lx.Tk)(w:World) :
  Calls Tryz.prog 36 #[tT t] w fun e w'=>e=.returned (.bool (oneOf t.text tZ))∧Below w.heap.size w w':=by
 obtain ⟨b,hb⟩:∃ b,b=oneOf t.text tZ:=⟨_,rfl⟩
 have HB:Hid (b=oneOf t.text tZ):=hb
 rw [← hb]
 clear hb
 go_enter Tryz.func36,Tryz.ntmps36
 have HC:=FC (w.alloc (.cells #[.int .i64 t.kind,.string t.text,.int .i64 t.num,.int .i64 t.pos] 88)) tZ
 rw [World.size_alloc] at HC
 have iD:Hid (∀ j x,tZ[j]?=some x→((w.alloc (.cells #[.int .i64 t.kind,.string t.text,.int .i64 t.num,.int .i64 t.pos] 88)).alloc (.cells (tZ.map Value.string).toArray 9)).cell? ⟨w.heap.size+1,j,none⟩=some (.string x)):=HC
 clear HC
 go_wp2_with fail
 refine (FB t.text tZ (w.heap.size+1) 4 b _ (by decide) iD HB).mono ?_
 rintro e w2 ⟨rfl,rfl⟩
 go_wp2
 go_ret
 exact ⟨rfl,((Below.refl _ w).alloc (Nat.le_refl _) _).alloc (by simp) _⟩
theorem VD (t:Lx.Tk)(w:World)(hz:t.text.size≤maxLen) :
  Calls Tryz.prog 105 #[tT t] w fun e w'=>e=.returned (.bool (Lx.named t.text.toList || oneOf t.text rR))∧Below w.heap.size w w':=by
 obtain ⟨b,hb⟩:∃ b,b=(Lx.named t.text.toList || oneOf t.text rR):=⟨_,rfl⟩
 have HB:Hid (b=(Lx.named t.text.toList || oneOf t.text rR)):=hb
 rw [← hb]
 clear hb
 cases hn:Lx.named t.text.toList with
 | true =>
  have HN:Hid (Lx.named t.text.toList=true):=hn
  have HB2:Hid (b=true):=by rw [HB.out,hn];rfl
  clear hn
  go_enter Tryz.func105,Tryz.ntmps105
  go_wp2_with fail
  refine (rH t.text _ hz).mono ?_
  rintro e w2 ⟨he,rfl⟩
  rw [HN.out] at he
  subst he
  go_wp2
  go_ret
  exact ⟨by rw [HB2.out];rfl,(Below.refl _ w).alloc (Nat.le_refl _) _⟩
 | false =>
  have HN:Hid (Lx.named t.text.toList=false):=hn
  have HB2:Hid (b=oneOf t.text rR):=by rw [HB.out,hn];rfl
  clear hn
  have HC:=FC (w.alloc (.cells #[.int .i64 t.kind,.string t.text,.int .i64 t.num,.int .i64 t.pos] 88)) rR
  rw [World.size_alloc] at HC
  have iD:Hid (∀ j x,rR[j]?=some x→((w.alloc (.cells #[.int .i64 t.kind,.string t.text,.int .i64 t.num,.int .i64 t.pos] 88)).alloc (.cells (rR.map Value.string).toArray 9)).cell? ⟨w.heap.size+1,j,none⟩=some (.string x)):=HC
  clear HC
  go_enter Tryz.func105,Tryz.ntmps105
  go_wp2_with fail
  refine (rH t.text _ hz).mono ?_
  rintro e w2 ⟨he,rfl⟩
  rw [HN.out] at he
  subst he
  go_wp2_with fail
  refine (FB t.text rR (w.heap.size+1) 8 b _ (by decide) iD HB2).mono ?_
  rintro e w3 ⟨rfl,rfl⟩
  go_wp2
  go_ret
  exact ⟨rfl,((Below.refl _ w).alloc (Nat.le_refl _) _).alloc (by simp) _⟩
def fZ (bg:Lx.Tk→Bool)(n most:Int)(t:Lx.Tk)(p:Nat):Except (Int × Nat) Nat:=if n=most∧bg t=true then .error (5,t.pos) else .ok p
theorem VE (B R:Nat)(ta:Option Addr)(tc:Nat)(l:List Lx.Tk)(p en:Nat)(mv:Value)(op:Int)(g:FuncId)(bg:Lx.Tk→Bool)(n most:Int)(t:Lx.Tk)(r:Except (Int × Nat) Nat)(w:World)(hR:Hid (RD w R ta tc l p en mv op))(hT:Hid (gq B w l ta))(hB:B≤R)(hp:p≤l.length)(ht:Hid (t=pk l p en))
  (hcf:∀ (a:Value) (w:World),(callFunc g #[a]).run Tryz.prog w=.ok (.enter g #[a]) w) (hg:Hid (∀ u:World,Calls Tryz.prog g #[tT t] u fun e w'=>e=.returned (.bool (bg t))∧Below u.heap.size u w')) (hr:Hid (r=fZ bg n most t p)) :
  Calls Tryz.prog 35 #[.pointer (some ⟨R,0,none⟩),.int .i64 n,.int .i64 most,.func (.func g) #[] #[]] w fun e w'=>vz R ta tc l en mv op w (.tuple #[]) r e w':=by
 have hRl:=hR.out.lt
 by_cases hn:n=most
 ·obtain ⟨b,hb⟩:∃ b,b=bg t:=⟨_,rfl⟩
  have FD:Hid (bg t=b):=hb.symm
  have e0:(n==most)=true:=by simp;exact hn
  have HN:Hid (n=most):=hn
  clear hb hn
  go_enter Tryz.func35,Tryz.ntmps35
  go_wp2_with fail
  refine (xG B R ta tc l p en mv op t _ hR hT hB hp ht).mono ?_
  rintro e w1 ⟨rfl,hb1⟩
  have HB1:Hid (Below w.heap.size w w1):=hb1
  have HR1:Hid (RD w1 R ta tc l p en mv op):=hR.out.on hb1
  have HT1:Hid (gq B w1 l ta):=hT.out.on (qH hb1 (by omega))
  have hz1:=hb1.size
  clear hb1
  go_wp2_with fail
  refine (hg.out _).mono ?_
  rintro e w2 ⟨he,hb2⟩
  rw [FD.out] at he
  subst he
  have HB2:Hid (Below w.heap.size w w2):=HB1.out.trans (hb2.mono hz1)
  have HR2:Hid (RD w2 R ta tc l p en mv op):=HR1.out.on hb2
  have HT2:Hid (gq B w2 l ta):=HT1.out.on (qH hb2 (by omega))
  clear hb2
  cases b with
  | true =>
   have ae:Hid (r=.error (5,t.pos)):=by rw [hr.out];unfold fZ;rw [if_pos ⟨HN.out,FD.out⟩];rfl
   go_wp2_with fail
   refine (tV B R ta tc l p en mv op 5 t _ HR2 HT2 hB hp ht).mono ?_
   rintro e w3 ⟨rfl,hb3⟩
   have aK:Hid (w.grownBy w3 (some R)):=rP (eD HB2.out) hb3
   have HD:Hid (RD w3 R ta tc l p en mv op):=HR2.out.on hb3
   clear hb3
   go_wp2
   exact ⟨rfl,aK.out,by rw [ae.out];exact ⟨rfl,_,_,HD.out,Int.le_refl _,by omega⟩⟩
  | false =>
   have ae:Hid (r=.ok p):=by rw [hr.out];unfold fZ;rw [if_neg (by rw [FD.out];simp)];rfl
   go_wp2
   go_end0
   exact ⟨eD HB2.out,by rw [ae.out];exact ⟨rfl,HR2.out⟩⟩
 ·have e0:(n==most)=false:=by simp;exact hn
  have ae:Hid (r=.ok p):=by rw [hr.out];unfold fZ;rw [if_neg (by intro h;exact hn h.1)];rfl
  clear hn
  go_enter Tryz.func35,Tryz.ntmps35
  go_wp2
  go_end0
  exact ⟨eD (Below.refl _ _),by rw [ae.out];exact ⟨rfl,hR.out⟩⟩
theorem Cu {l:List Lx.Tk}{p:Nat}{s:ByteArray}(h:tk l p s=true):p<l.length:=by
 unfold tk at h
 cases hx:l[p]? with
 | none=>rw [hx] at h;simp at h
 | some t=>exact (List.getElem?_eq_some_iff.1 hx).1
theorem FE {l:List Lx.Tk}{p en:Nat}(h:(pk l p en).kind≠0):p<l.length:=by
 unfold pk at h
 cases hx:l[p]? with
 | none=>rw [hx] at h;simp at h
 | some t=>exact (List.getElem?_eq_some_iff.1 hx).1
theorem VF {l:List Lx.Tk}{p en q:Nat}{s:ByteArray}(h:pz l p en s=.ok q):q=p+1∧q≤l.length:=by
 unfold pz at h
 split at h
 ·rename_i ht
  have:=Cu ht
  simp at h
  omega
 ·simp at h
theorem FH {l:List Lx.Tk}{p en q:Nat}(h:lK l p en=.ok q):q=p+1∧q≤l.length∧Lx.named (pk l p en).text.toList=true:=by
 unfold lK at h
 split at h
 ·simp at h
 ·rename_i hk
  have:=FE (l:=l) (p:=p) (en:=en) (by omega)
  split at h
  ·simp at h
  ·rename_i hn
   simp at h
   exact ⟨by omega,by omega,by simpa using hn⟩
theorem VG {l:List Lx.Tk}{p en q:Nat}(h:oM l p en=.ok q):q=p+1∧q≤l.length:=by
 unfold oM at h
 split at h
 ·rename_i ht
  have:=Cu ht
  simp at h
  omega
 ·split at h
  ·rename_i ht
   have:=Cu ht
   simp at h
   omega
  ·exact ⟨(FH h).1,(FH h).2.1⟩
theorem VH {l:List Lx.Tk}{p en q:Nat}(h:nL l p en=.ok q):q=p+1∧q≤l.length:=by
 unfold nL at h
 split at h
 ·simp at h
 ·rename_i hk
  have:=FE (l:=l) (p:=p) (en:=en) (by omega)
  split at h
  ·simp at h
  ·simp at h
   omega
def zu (l:List Lx.Tk):Prop:=∀ t ∈ l,t.text.size≤6000∧t.num≤1000000000000000
theorem zu.pk {l:List Lx.Tk}(h:zu l)(p en:Nat):(pk l p en).text.size≤6000∧(pk l p en).num≤1000000000000000:=by
 unfold Go.Proofs.YtolfleeidpeomaaGreatDoor.pk
 cases hx:l[p]? with
 | none=>exact ⟨Nat.zero_le _,Nat.zero_le _⟩
 | some t=>exact h t (List.mem_of_getElem? hx)
end Go.Proofs.YtolfleeidpeomaaGreatDoor
