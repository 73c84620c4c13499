/- What syn.Read answers,as a plain function;the walk of its closure. -/
import Derived.Test.YtolfleeidpeomaaGreatDoorM20
import Derived.Test.YtolfleeidpeomaaGreatDoorM9
import Derived.Test.YtolfleeidpeomaaGreatDoorM12
set_option maxRecDepth 100000
set_option maxHeartbeats 1000000
namespace Go.Proofs.YtolfleeidpeomaaGreatDoor
open Go.RowKit
def kD (s:ByteArray):List Sy.Df × Int × Int :=
 if (Lx.lexB s).2.1≠0 then ([],(Lx.lexB s).2.1,(Lx.lexB s).2.2)
 else match Rp.program (Lx.lexB s).1 s.size with
  | .error e=>([],e.1,e.2)
  | .ok x=>if (Sy.dx x.2).1≠0 then ([],(Sy.dx x.2).1,0) else (x.2,0,0)
abbrev gm (v:Value):Obj:=.cells #[v] 22 (0,0)
theorem Ph (E:Env)(G:Good E)(N:Nat)(r:au (List Sy.Df))(w:World)(h:Hid (az E w 0 0))(hN:Hid (w.heap[N]?=some (gm (.slice none 0 0))))(hNR:N<E.R)(hr:Hid (r=Rp.program E.l E.en)) :
  Calls Tryz.prog 16 #[.pointer (some ⟨E.R,0,none⟩),.pointer (some ⟨N,0,none⟩)] w fun e w'=>match r with
   | .ok (_,l)=>e=.returned (.tuple #[])∧∃ v u,Ai w u l v∧w.grownBy u (some E.R)∧w'=u.setCell ⟨N,0,none⟩ v∧w'.heap[N]?=some (gm v)
   | .error (er,at')=>e=.panicked [aH er at']∧w.grownBy w' (some E.R):=by
 go_enter Tryz.func16,Tryz.ntmps16
 go_wp2_with fail
 refine (Zb E G r _ h hr).mono ?_
 rintro e w1 ⟨hg1,hf1⟩
 have ax:=aa hg1
 have hN1:w1.heap[N]?=some (gm (.slice none 0 0)):=aA hg1 (by omega) hN.out
 obtain ⟨c0,f0⟩:=nV hN1
 have kN:=aa hN1
 clear hg1 hN1
 cases r with
 | error er =>
  obtain ⟨e1,e2⟩:=er
  obtain ⟨rfl,hd1⟩:=hf1
  clear hd1
  go_wp2
  exact ⟨rfl,rfl,ax.out⟩
 | ok qx =>
  obtain ⟨q,l⟩:=qx
  obtain ⟨⟨v,rfl,hv⟩,hd1⟩:=hf1
  have HV:=aa hv
  obtain ⟨a,c,rfl,_,_⟩:=hv
  clear hd1
  go_wp2
  go_end0
  refine ⟨rfl,_,w1,HV.out,ax.out,rfl,?_⟩
  have h1:=kN.out
  simp only [World.setCell,Array.getElem?_modify,if_true,h1,Option.map_some]
  rfl
namespace Lx
def Pj (l:List UInt8):Bool:=match l with
 | []=>false
 | c :: r=>(isLet c && r.all gP) || (decide (r=[]) && one c && !isLet c && !dB c && !jR c && decide (c.toNat≠35)) || (decide (r=[61]) && two c && !isLet c && !dB c && !jR c && decide (c.toNat≠35))
theorem fQ {w:ByteArray}(h:Pj w.data.toList=true):Gw w:=by
 cases hw:w.data.toList with
 | nil=>rw [hw] at h;cases h
 | cons c r =>
  rw [hw] at h
  simp only [Pj,Bool.or_eq_true,Bool.and_eq_true,Bool.not_eq_true',decide_eq_true_eq] at h
  have Pk:w=⟨(c :: r).toArray⟩:=by
   apply ByteArray.ext
   apply Array.toList_inj.1
   rw [hw]
  rcases h with (⟨h1,h2⟩ | ⟨⟨⟨⟨⟨rfl,h1⟩,h2⟩,h3⟩,h4⟩,h5⟩) | ⟨⟨⟨⟨⟨rfl,h1⟩,h2⟩,h3⟩,h4⟩,h5⟩
  ·exact (Lj hw h1 (List.all_eq_true.1 h2)).1
  ·rw [Pk];exact (Ux c h1 h2 h3 h4 h5).1
  ·rw [Pk];exact (Uy c h1 h2 h3 h4 h5).1
end Lx
namespace Sy
theorem Iq {α:Type}{f:α→List ByteArray}{w:ByteArray}:∀ {ks:List α} {i:Nat},w ∈ bZ f i ks→w=⟨#[44]⟩∨∃ k ∈ ks,w ∈ f k
 | [],_,h=>by simp [bZ] at h
 | a :: ks,i,h=>by
  rw [bZ] at h
  rcases List.mem_append.1 h with h | h
  ·rcases List.mem_append.1 h with h | h
   ·split at h
    ·exact .inl (by simpa using h)
    ·simp at h
   ·exact .inr ⟨a,by simp,h⟩
  ·rcases Iq h with h | ⟨k,hk,h⟩
   ·exact .inl h
   ·exact .inr ⟨k,by simp [hk],h⟩
theorem Zr {f:Ex→List ByteArray}{L:Int}{x:Ex}{w:ByteArray}(h:w ∈ bU f L x):w=⟨#[40]⟩∨w=⟨#[41]⟩∨w ∈ f x:=by
 unfold bU at h
 split at h
 ·exact .inr (.inr h)
 ·rcases List.mem_append.1 h with h | h
  ·rcases List.mem_append.1 h with h | h
   ·exact .inl (by simpa using h)
   ·exact .inr (.inr h)
  ·exact .inr (.inl (by simpa using h))
theorem Zt {f:Ex→List ByteArray}{ah:List ByteArray}{ks:List Ex}{w:ByteArray}(h:w ∈ eO f ah ks):w ∈ ah∨w=⟨#[40]⟩∨w=⟨#[41]⟩∨w=⟨#[44]⟩∨∃ k ∈ ks,w ∈ f k:=by
 unfold eO at h
 rcases List.mem_append.1 h with h | h
 ·rcases List.mem_append.1 h with h | h
  ·rcases List.mem_append.1 h with h | h
   ·exact .inl h
   ·exact .inr (.inl (by simpa using h))
  ·rcases Iq h with h | h
   ·exact .inr (.inr (.inr (.inl h)))
   ·exact .inr (.inr (.inr (.inr h)))
 ·exact .inr (.inr (.inl (by simpa using h)))
theorem Dy:Lx.Gw ⟨#[40]⟩:=Lx.fQ (by decide)
theorem Dz:Lx.Gw ⟨#[41]⟩:=Lx.fQ (by decide)
theorem Pn:Lx.Gw ⟨#[44]⟩:=Lx.fQ (by decide)
theorem Ir:Lx.Gw ⟨#[59]⟩:=Lx.fQ (by decide)
theorem Zu {k:Int}(h:0<aW k):Lx.Gw (sign k):=by
 have hk:=(xQ h).1
 have hc:k=6∨k=7∨k=8∨k=9∨k=10∨k=11∨k=12∨k=13∨k=14∨k=15∨k=16∨k=17∨k=18:=by omega
 rcases hc with rfl | rfl | rfl | rfl | rfl | rfl | rfl | rfl | rfl | rfl | rfl | rfl | rfl <;> exact Lx.fQ (by decide)
theorem DC {f:Ex→List ByteArray}{L:Int}{x:Ex}(hf:∀ w ∈ f x,Lx.Gw w):∀ w ∈ bU f L x,Lx.Gw w:=fun w hw=>by
 rcases Zr hw with rfl | rfl | h
 ·exact Dy
 ·exact Dz
 ·exact hf w h
theorem Al {f:Ex→List ByteArray}{ah:List ByteArray}{ks:List Ex}(ha:∀ w ∈ ah,Lx.Gw w)(hf:∀ k ∈ ks,∀ w ∈ f k,Lx.Gw w):∀ w ∈ eO f ah ks,Lx.Gw w:=fun w hw=>by
 rcases Zt hw with h | rfl | rfl | rfl | ⟨k,hk,h⟩
 ·exact ha w h
 ·exact Dy
 ·exact Dz
 ·exact Pn
 ·exact hf k hk w h
theorem DD:∀ (d:Nat) (x:Ex),dR d x→∀ w ∈ ai d x,Lx.Gw w
 | 0,_,h=>h.elim
 | d+1,x,⟨h1,h2,h3,h4⟩=>by
  obtain ⟨p1,_,p2⟩:=F7 h3
  have hK:∀ k ∈ x.kids,∀ w ∈ ai d k,Lx.Gw w:=fun k hk=>DD d k (h4 k hk)
  intro w hw
  rcases F6 h1 h2 with hk | hk | hk | hk | hk | hk | hk | hk | hk | hk | hk | hk
  ·obtain ⟨a,b,hab⟩:=vI h3 (.inl hk)
   rw [CQ hk hab] at hw
   rcases List.mem_append.1 hw with hw | hw
   ·rcases List.mem_append.1 hw with hw | hw
    ·exact DC (hK a (by rw [hab];simp)) w hw
    ·rw [List.mem_singleton.1 hw];exact Zu hk
   ·exact DC (hK b (by rw [hab];simp)) w hw
  ·rw [exT_1 hk] at hw;rw [List.mem_singleton.1 hw];exact (zF (p1 hk).1 (p1 hk).2).1
  ·rw [exT_2 hk] at hw
   rw [List.mem_singleton.1 hw]
   unfold lN
   split <;> exact Lx.fQ (by decide)
  ·rw [exT_3 hk] at hw;rw [List.mem_singleton.1 hw];exact (jY (p2 (.inl hk))).1
  ·obtain ⟨a,ha⟩:=qM h3 (by omega)
   rw [exT_4 hk ha] at hw
   rcases List.mem_append.1 hw with hw | hw
   ·rw [List.mem_singleton.1 hw];exact Lx.fQ (by decide)
   ·exact DC (hK a (by rw [ha];simp)) w hw
  ·obtain ⟨a,ha⟩:=qM h3 (by omega)
   rw [exT_5 hk ha] at hw
   rcases List.mem_append.1 hw with hw | hw
   ·rw [List.mem_singleton.1 hw];exact Lx.fQ (by decide)
   ·exact DC (hK a (by rw [ha];simp)) w hw
  ·rw [exT_19 hk] at hw
   exact Al (fun w hw=>by rw [List.mem_singleton.1 hw];exact (jY (p2 (.inr (.inl hk)))).1) hK w hw
  ·rw [exT_20 hk] at hw
   simp only [List.mem_cons,List.not_mem_nil,or_false] at hw
   rcases hw with rfl | rfl | rfl | rfl
   ·exact Lx.fQ (by decide)
   ·exact Dy
   ·exact (jY (p2 (.inr (.inr (.inl hk))))).1
   ·exact Dz
  ·rw [exT_21 hk] at hw
   exact Al (fun w hw=>by rw [List.mem_singleton.1 hw];exact Lx.fQ (by decide)) hK w hw
  ·rw [exT_22 hk] at hw
   refine Al (fun w hw=>?_) hK w hw
   simp only [List.mem_cons,List.not_mem_nil,or_false] at hw
   rcases hw with rfl | rfl
   ·exact Lx.fQ (by decide)
   ·exact (jY (p2 (.inr (.inr (.inr hk))))).1
  ·rw [exT_23 hk] at hw
   exact Al (fun w hw=>by rw [List.mem_singleton.1 hw];exact Lx.fQ (by decide)) hK w hw
  ·rw [exT_24 hk] at hw
   exact Al (fun w hw=>by rw [List.mem_singleton.1 hw];exact Lx.fQ (by decide)) hK w hw
theorem Zv {f:St→List ByteArray}{l:List St}{w:ByteArray}(h:w ∈ aV f l):w=⟨#[123]⟩∨w=⟨#[125]⟩∨∃ s ∈ l,w ∈ f s:=by
 unfold aV at h
 rcases List.mem_append.1 h with h | h
 ·rcases List.mem_append.1 h with h | h
  ·exact .inl (by simpa using h)
  ·obtain ⟨s,hs,h⟩:=List.mem_flatMap.1 h
   exact .inr (.inr ⟨s,hs,h⟩)
 ·exact .inr (.inl (by simpa using h))
theorem Po {f:St→List ByteArray}{l:List St}(hf:∀ s ∈ l,∀ w ∈ f s,Lx.Gw w):∀ w ∈ aV f l,Lx.Gw w:=fun w hw=>by
 rcases Zv hw with rfl | rfl | ⟨s,hs,h⟩
 ·exact Lx.fQ (by decide)
 ·exact Lx.fQ (by decide)
 ·exact hf s hs w h
theorem yt {d:Nat}{x:Ex}(hx:dR d x):∀ w ∈ ai d x++[⟨#[59]⟩],Lx.Gw w:=fun w hw=>by
 rcases List.mem_append.1 hw with hw | hw
 ·exact DD d x hx w hw
 ·rw [List.mem_singleton.1 hw];exact Ir
theorem gG {a:ByteArray}{l:List ByteArray}(ha:Lx.Gw a)(hl:∀ w ∈ l,Lx.Gw w):∀ w ∈ a :: l,Lx.Gw w:=fun w hw=>by
 rcases List.mem_cons.1 hw with rfl | hw
 ·exact ha
 ·exact hl w hw
theorem rA {a l:List ByteArray}(ha:∀ w ∈ a,Lx.Gw w)(hl:∀ w ∈ l,Lx.Gw w):∀ w ∈ a++l,Lx.Gw w:=fun w hw=>by
 rcases List.mem_append.1 hw with hw | hw
 ·exact ha w hw
 ·exact hl w hw
theorem Am:∀ w ∈ ([]:List ByteArray),Lx.Gw w:=fun w hw=>by cases hw
theorem Pp:∀ (d:Nat) (s:St),mO d s→∀ w ∈ aC d s,Lx.Gw w
 | 0,_,h=>h.elim
 | d+1,s,⟨h1,h2,h3,h4,h5,h6⟩=>by
  have hB:∀ ls:List St,(∀ t ∈ ls,mO d t)→∀ w ∈ aV (aC d) ls,Lx.Gw w:=fun ls hls=>Po (fun t ht=>Pp d t (hls t ht))
  have hk:s.kind=1∨s.kind=2∨s.kind=3∨s.kind=4∨s.kind=5∨s.kind=6∨s.kind=7∨s.kind=8∨s.kind=9:=by omega
  rcases hk with hk | hk | hk | hk | hk | hk | hk | hk | hk
  ·rw [stT_1 hk];exact gG (Lx.fQ (by decide)) (gG (jY (h3 (by omega))).1 (gG (Lx.fQ (by decide)) (yt (h4 (by omega)))))
  ·rw [stT_2 hk];exact gG (jY (h3 (by omega))).1 (gG (Lx.fQ (by decide)) (yt (h4 (by omega))))
  ·rw [stT_3 hk]
   refine gG (Lx.fQ (by decide)) (rA (DD d s.x (h4 (by omega))) (rA (hB _ (h5 (.inl hk)).2) ?_))
   split
   ·exact Am
   ·exact gG (Lx.fQ (by decide)) (hB _ (h6 hk).2)
  ·rw [stT_4 hk];exact gG (Lx.fQ (by decide)) (rA (DD d s.x (h4 (by omega))) (hB _ (h5 (.inr hk)).2))
  ·rw [stT_5 hk];exact gG (Lx.fQ (by decide)) (yt (h4 (by omega)))
  ·rw [stT_6 hk];exact gG (Lx.fQ (by decide)) (gG Ir Am)
  ·rw [stT_7 hk];exact gG (Lx.fQ (by decide)) (gG (jY (h3 (by omega))).1 (yt (h4 (by omega))))
  ·rw [stT_8 hk];exact gG (Lx.fQ (by decide)) (yt (h4 (by omega)))
  ·rw [stT_9 hk];exact gG (Lx.fQ (by decide)) (yt (h4 (by omega)))
theorem Ao {t:Ty}(h:qN t):∀ w ∈ cZ t,Lx.Gw w:=by
 unfold cZ
 refine gG ?_ Am
 split
 ·exact Lx.fQ (by decide)
 split
 ·exact Lx.fQ (by decide)
 ·exact (jY (h.2.2 (by have:=h.1;have:=h.2.1;omega))).1
theorem Pq {ps:List Pm}(h:∀ p ∈ ps,nm p.name=true∧qN p.ty):∀ w ∈ fB ps,Lx.Gw w:=by
 unfold fB
 refine rA (gG Dy fun w hw=>?_) (gG Dz Am)
 rcases Iq hw with rfl | ⟨p,hp,hw⟩
 ·exact Pn
 ·exact gG (jY (h p hp).1).1 (Ao (h p hp).2) w hw
theorem Zw {d:Df}(hd:mP d):∀ w ∈ fI d,Lx.Gw w:=by
 have hk:d.kind=1∨d.kind=2∨d.kind=3∨d.kind=4:=by have:=hd.kind;omega
 have hn:=(jY hd.name).1
 have hB:d.kind≠1→∀ w ∈ aV (aC 39) d.body,Lx.Gw w:=fun h=>Po (fun s hs=>Pp 39 s ((hd.body h).2 s hs))
 rcases hk with hk | hk | hk | hk
 ·rw [Gi hk]
  have hc:=hd.cap hk
  exact gG (Lx.fQ (by decide)) (gG hn (rA (Ao (hd.ty (by omega))) (gG (zF (by omega) (by omega)).1 (gG Ir Am))))
 ·rw [Gj hk]
  exact gG (Lx.fQ (by decide)) (gG hn (rA (Pq (hd.uu (.inl hk)).2) (rA (Ao (hd.ty (by omega))) (hB (by omega)))))
 ·rw [Gm hk]
  exact gG (Lx.fQ (by decide)) (gG hn (rA (Pq (hd.uu (.inr hk)).2) (gG (Lx.fQ (by decide)) (rA (Ao (hd.takes hk)) (gG (Lx.fQ (by decide)) (rA (Ao (hd.ty (by omega))) (hB (by omega))))))))
 ·rw [Gn hk]
  exact gG (Lx.fQ (by decide)) (gG hn (hB (by omega)))
theorem Zx {ds:List Df}(h:∀ d ∈ ds,mP d):∀ w ∈ dW ds,Lx.Gw w:=fun w hw=>by
 unfold dW at hw
 obtain ⟨d,hd,hw⟩:=List.mem_flatMap.1 hw
 exact Zw (h d hd) w hw
end Sy
namespace Sy
theorem Iu {α:Type}{f:α→Nat→Except Int Nat}{g:α→α}(h:∀ a n,f (g a) n=f a n):∀ (l:List α) (n:Nat),runs f (l.map g) n=runs f l n
 | [],_=>rfl
 | a :: l,n=>by
  rw [List.map_cons,runs,runs,h a n]
  cases f a n with
  | error e=>rfl
  | ok m=>exact Iu h l m
theorem Ps:∀ (d:Nat) (x:Ex) (n:Nat),aF d (aj d x) n=aF d x n
 | 0,_,_=>rfl
 | d+1,x,n=>by
  have hh:dU (aj (d+1) x)=dU x:=by
   unfold dU
   have e1:(aj (d+1) x).kind=x.kind:=rfl
   have e2:(aj (d+1) x).kids.length=x.kids.length:=by rw [aj];simp
   have e3:(aj (d+1) x).n=if x.kind=1∨x.kind=2 then x.n else 0:=rfl
   have e4:(aj (d+1) x).name=if x.kind=3∨x.kind=19∨x.kind=20∨x.kind=22 then x.name else ⟨#[]⟩:=rfl
   rw [e1,e2,e3,e4]
   by_cases h1:x.kind=1∨x.kind=2
   ·rw [if_pos h1]
    have h2:¬ (x.kind=3∨x.kind=19∨x.kind=20∨x.kind=22):=by omega
    simp only [h2,false_and,if_false]
   ·rw [if_neg h1]
    have c1:¬ x.kind=1:=fun h=>h1 (.inl h)
    have c2:¬ x.kind=2:=fun h=>h1 (.inr h)
    simp only [c1,c2,false_and,or_self,if_false]
    by_cases h2:x.kind=3∨x.kind=19∨x.kind=20∨x.kind=22
    ·rw [if_pos h2]
    ·simp only [h2,false_and,if_false]
  rw [aF,aF,hh]
  have e1:(aj (d+1) x).kind=x.kind:=rfl
  have e5:(aj (d+1) x).kids=x.kids.map (aj d):=rfl
  rw [e1,e5,Iu (Ps d)]
theorem Iw {f:St→Nat→Except Int Nat}{g:St→St}(h:∀ a n,f (g a) n=f a n)(l:List St)(n:Nat):cO f (l.map g) n=cO f l n:=by
 unfold cO
 rw [List.length_map,Iu h]
theorem Iy:∀ (d:Nat) (s:St) (n:Nat),aO d (bS d s) n=aO d s n
 | 0,_,_=>rfl
 | d+1,s,n=>by
  have e1:(bS (d+1) s).kind=s.kind:=rfl
  have e2:(bS (d+1) s).name=if s.kind=1∨s.kind=2∨s.kind=7 then s.name else ⟨#[]⟩:=rfl
  have e3:(bS (d+1) s).x=if s.kind=6 then ⟨0,0,⟨#[]⟩,[]⟩ else aj d s.x:=rfl
  have e4:(bS (d+1) s).body=if s.kind=3∨s.kind=4 then s.body.map (bS d) else []:=rfl
  have e5:(bS (d+1) s).els=if s.kind=3 then s.els.map (bS d) else []:=rfl
  have ht:∀ m,dN (aO d) (bS (d+1) s) m=dN (aO d) s m:=by
   intro m
   unfold dN
   rw [e1,e4,e5]
   by_cases oQ:s.kind=3∨s.kind=4
   ·rw [if_pos oQ,if_pos oQ,if_pos oQ,Iw (Iy d)]
    cases cO (aO d) s.body m with
    | error e=>rfl
    | ok m2 =>
     simp only
     by_cases h3:s.kind=3
     ·rw [if_pos h3,if_pos h3,if_pos h3,Iw (Iy d)]
     ·rw [if_neg h3,if_neg h3]
   ·rw [if_neg oQ,if_neg oQ]
  rw [aO,aO,e1,e2,e3]
  by_cases h6:s.kind=6
  ·have h1:¬ (s.kind=1∨s.kind=2∨s.kind=7):=by omega
   simp only [if_pos h6,h1,false_and,if_false]
  ·simp only [if_neg h6]
   rw [Ps d]
   simp only [ht]
   by_cases h1:s.kind=1∨s.kind=2∨s.kind=7
   ·rw [if_pos h1]
   ·simp only [h1,false_and,if_false]
theorem Ap (t:Ty):bN (gU t)=bN t:=by
 unfold bN gU
 simp only
 by_cases h:t.kind=3
 ·rw [if_pos h]
 ·simp only [h,false_and,if_false]
theorem Pt:∀ l:List Pm,fU (l.map jC)=fU l
 | []=>rfl
 | p :: l=>by
  rw [List.map_cons,fU,fU,Pt l]
  have e1:(jC p).name=p.name:=rfl
  have e2:(jC p).ty=gU p.ty:=rfl
  rw [e1,e2,Ap]
theorem Zy (d:Df)(n:Nat):dX (aN d) n=dX d n:=by
 have hh:fw (aN d) n=fw d n:=by
  unfold fw aN
  simp only
  by_cases h1:d.kind=1
  ·have a1:¬ d.kind=2:=by omega
   have a2:¬ d.kind=3:=by omega
   have a3:¬ d.kind=4:=by omega
   simp only [a1,a2,a3,or_self,false_and,if_false,Ap,if_pos h1]
  ·by_cases h23:d.kind=2∨d.kind=3
   ·have a3:¬ d.kind=4:=by omega
    rw [if_pos h23,List.length_map,Pt]
    simp only [a3,if_false,Ap,h1,false_and]
    by_cases h3:d.kind=3
    ·rw [if_pos h3,Ap]
    ·simp only [h3,false_and,if_false]
   ·have a1:¬ d.kind=2:=by omega
    have a2:¬ d.kind=3:=by omega
    by_cases h4:d.kind=4
    ·have a4:¬ d.kind≠4:=by omega
     simp only [a1,a2,h1,a4,or_self,false_and,if_false]
    ·simp only [a1,a2,h1,h4,or_self,false_and,if_false,Ap]
 unfold dX
 rw [hh]
 have e1:(aN d).kind=d.kind:=rfl
 have e2:(aN d).body=if d.kind=1 then [] else d.body.map (bS 39):=rfl
 rw [e1,e2]
 by_cases h1:d.kind=1
 ·rw [if_pos h1,if_pos h1]
 ·rw [if_neg h1,if_neg h1,if_neg h1]
  unfold xB
  rw [Iw (Iy 39)]
theorem Pv:∀ (l:List Df) (i n:Nat),iB (l.map aN) i n=iB l i n
 | [],_,_=>rfl
 | d :: l,i,n=>by
  rw [List.map_cons,iB,iB,Zy]
  cases dX d n with
  | error e=>rfl
  | ok m=>exact Pv l (i+1) m
theorem Pw (l:List Df):dx (l.map aN)=dx l:=by
 unfold dx
 rw [List.length_map,Pv]
end Sy
def mY (ds:List Sy.Df):ByteArray:=⟨(Lib.join ((Sy.dW ds).map (·.data.toList)) [32]).toArray⟩
theorem Zz {ds:List Sy.Df}(hw:(Sy.dx ds).1=0)(hz:∀ d n e,Sy.dX d n=.error e→e≠0)(hm:(mY ds).size≤6000):kD (mY ds)=(ds.map Sy.aN,0,0):=by
 have hn:ds.length≤30:=by
  unfold Sy.dx at hw
  split at hw
  ·simp at hw
  ·omega
 have hd:∀ d ∈ ds,Sy.mP d:=by
  unfold Sy.dx at hw
  rw [if_neg (by omega)] at hw
  exact Sy.Cy hw hz
 obtain ⟨h0,h1⟩:=Lx.Uu (Sy.dW ds) (mY ds) (by unfold mY;simp) (Sy.Zx hd) hm
 unfold kD
 rw [if_neg (by simpa using h0),Rp.WN hd hn h1]
 simp only
 rw [Sy.Pw,if_neg (by simpa using hw)]
namespace Rp
def Rs {α:Type}(P:α→Prop)(r:au α):Prop:=∀ q x,r=.ok (q,x)→P x
theorem Rs.ok {α:Type}{P:α→Prop}{q:Nat}{x:α}(h:P x):Rs P (.ok (q,x):au α):=fun _ _ e=>by
 simp only [Except.ok.injEq,Prod.mk.injEq] at e
 rw [← e.2];exact h
theorem Rs.err {α:Type}{P:α→Prop}(e:Int × Nat):Rs P (.error e:au α):=fun _ _ h=>by simp at h
theorem Rs.any {α:Type}(r:au α):Rs (fun _=>True) r:=fun _ _ _=>trivial
theorem Rs.andThen {α β:Type}{P:α→Prop}{Q:β→Prop}{r:au α}{f:Nat→α→au β}(h1:Rs P r)(h2:∀ q x,P x→Rs Q (f q x)):Rs Q (Rp.andThen r f):=by
 intro q y h
 obtain ⟨q1,x,e1,e2⟩:=fO h
 exact h2 q1 x (h1 q1 x e1) q y e2
theorem Rs.ite {α:Type}{P:α→Prop}{c:Prop}[Decidable c]{a b:au α}(h1:Rs P a)(h2:Rs P b):Rs P (if c then a else b):=by split <;> assumption
section
variable {l:List Lx.Tk} {en:Nat}
end
end Rp
end Go.Proofs.YtolfleeidpeomaaGreatDoor
