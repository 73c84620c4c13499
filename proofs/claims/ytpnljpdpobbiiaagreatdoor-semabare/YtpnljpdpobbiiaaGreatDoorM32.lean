/- The cells of a row of owners. -/
import Derived.Test.YtpnljpdpobbiiaaGreatDoorM30
import Derived.Test.YtpnljpdpobbiiaaGreatDoorM11
import Derived.Test.YtpnljpdpobbiiaaGreatDoorM31
import Derived.Deep.QuietTactic
import Derived.BigQuiet
import Derived.Deep.RegionHeld3
namespace Go.Proofs.YtpnljpdpobbiiaaGreatDoor
open Go.RowKit
namespace Sm
end Sm
namespace Sm
theorem gl_tabs {w:World} (h:Xe.Tabs w):Gl w.heap.size w:=by
 obtain ⟨_,⟨e1,f1,h1⟩,⟨e2,f2,h2⟩⟩:=h
 have b1:=lt_of_block h1
 have b2:=lt_of_block h2
 refine ⟨⟨b2,b1⟩,?_,?_,?_,?_⟩ <;> simp [World.cell?,h1,h2,Xe.truthL,Xe.numL] <;> rfl
end Sm
end Go.Proofs.YtpnljpdpobbiiaaGreatDoor
-- Rq
namespace Go.Proofs.YtpnljpdpobbiiaaGreatDoor
open Go.RowKit
def ExQ (Q:Nat → Prop) (w:World):Nat → Sy.Ex → Option Addr → Prop
 | 0,_,_ => False
 | h + 1,x,a => x.name.size ≤ maxLen ∧ x.kids.length ≤ maxLen ∧ ∀ i k,x.kids[i]? = some k → ∃ b off a' c',a = some ⟨b,off,none⟩ ∧ Q b ∧
   w.cell? ⟨b,off + i * 4,none⟩ = some (.int .i64 k.kind) ∧ w.cell? ⟨b,off + i * 4 + 1,none⟩ = some (.int .i64 k.n) ∧ w.cell? ⟨b,off + i * 4 + 2,none⟩ = some (.string k.name) ∧
   w.cell? ⟨b,off + i * 4 + 3,none⟩ = some (.slice a' k.kids.length c') ∧ ExQ Q w h k a'
theorem ExQ.keep {Q Q':Nat → Prop} {w w':World} (hk:∀ b,Q b → Q' b ∧ w'.heap[b]? = w.heap[b]?):∀ {h:Nat} {x:Sy.Ex} {a:Option Addr},ExQ Q w h x a → ExQ Q' w' h x a
 | 0,_,_,h => h
 | h + 1,x,a,⟨h1,h2,h3⟩ => ⟨h1,h2,fun i k hi => by
   obtain ⟨b,off,a',c',ha,hb,c0,c1,c2,c3,hin⟩:=h3 i k hi
   have hc:∀ o,w'.cell? ⟨b,o,none⟩ = w.cell? ⟨b,o,none⟩:=fun o => World.cell?_of_block (w:=w) (hk b hb).2
   exact ⟨b,off,a',c',ha,(hk b hb).1,(hc _).trans c0,(hc _).trans c1,(hc _).trans c2,(hc _).trans c3,ExQ.keep hk hin⟩⟩
theorem ExQ.leaf (Q:Nat → Prop) (w:World) (k n:Int) (s:ByteArray) (hs:s.size ≤ maxLen) (a:Option Addr):ExQ Q w 1 ⟨k,n,s,[]⟩ a:=⟨hs,Nat.zero_le _,fun i k hk => by simp at hk⟩
abbrev Mad (w w':World):Nat → Prop:=fun b => w.heap.size ≤ b ∧ b < w'.heap.size
end Go.Proofs.YtpnljpdpobbiiaaGreatDoor
-- Re1
namespace Go.Proofs.YtpnljpdpobbiiaaGreatDoor
open Go.RowKit
abbrev ZE:Obj:=.cells #[.int .i64 0,.int .i64 0,.string ⟨#[]⟩,.slice none 0 0] 92 (0,0)
abbrev exO (k n:Int) (s:ByteArray) (v:Value):Obj:=.cells #[.int .i64 k,.int .i64 n,.string s,v] 92 (0,0)
end Go.Proofs.YtpnljpdpobbiiaaGreatDoor
-- Re2
namespace Go.Proofs.YtpnljpdpobbiiaaGreatDoor
open Go.RowKit
theorem World.setCell_size (w:World) (a:Addr) (v:Value):(w.setCell a v).heap.size = w.heap.size:=by simp [World.setCell]
end Go.Proofs.YtpnljpdpobbiiaaGreatDoor
-- Re3
namespace Go.Proofs.YtpnljpdpobbiiaaGreatDoor
open Go.RowKit
end Go.Proofs.YtpnljpdpobbiiaaGreatDoor
-- Re6
namespace Go.Proofs.YtpnljpdpobbiiaaGreatDoor
open Go.RowKit
end Go.Proofs.YtpnljpdpobbiiaaGreatDoor
-- Re7
namespace Go.Proofs.YtpnljpdpobbiiaaGreatDoor
open Go.RowKit
abbrev Itm:=Sy.Ex × Option Addr × Nat
abbrev itc (i:Itm):List Value:=[.int .i64 i.1.kind,.int .i64 i.1.n,.string i.1.name,.slice i.2.1 i.1.kids.length i.2.2]
def cells4 (its:List Itm):List Value:=its.flatMap itc
theorem cells4_len:∀ its,(cells4 its).length = its.length * 4
 | [] => rfl
 | i :: its => by have:=cells4_len its; simp only [cells4,List.flatMap_cons,List.length_append,List.length_cons] at *; simp only [this,List.length_nil]; omega
theorem cells4_app (l m:List Itm):cells4 (l ++ m) = cells4 l ++ cells4 m:=by simp [cells4]
theorem cells4_get:∀ (its:List Itm) (i:Nat) (it:Itm),its[i]? = some it → ∀ j,j < 4 → (cells4 its)[i * 4 + j]? = (itc it)[j]?
 | [],i,it,h,_,_ => by simp at h
 | x :: its,0,it,h,j,hj => by
  simp at h; subst h
  simp only [cells4,List.flatMap_cons,Nat.zero_mul,Nat.zero_add]
  rw [List.getElem?_append_left (by simpa using hj)]
 | x :: its,i + 1,it,h,j,hj => by
  have ih:=cells4_get its i it (by simpa using h) j hj
  simp only [cells4,List.flatMap_cons] at ih ⊢
  rw [List.getElem?_append_right (by simp; omega)]
  have e:(i + 1) * 4 + j - (itc x).length = i * 4 + j:=by simp; omega
  rw [e,ih]
theorem cells4_one (its:List Itm):∀ u ∈ cells4 its,u.oneCell' = true:=by
 intro u hu
 obtain ⟨o,_,ho⟩:=List.mem_flatMap.1 hu
 simp only [List.mem_cons,List.not_mem_nil,or_false] at ho
 rcases ho with rfl | rfl | rfl | rfl <;> rfl
theorem own_exq {Q:Nat → Prop} {w:World} {B n h:Nat} {v:Value} {its:List Itm} {k nn:Int} {s:ByteArray} (hown:w.ownsRow B 92 4 v n (cells4 its)) (hit:∀ it ∈ its,ExQ Q w h it.1 it.2.1) (hQ:∀ g,v.ownBlock = some g → Q g) (hlen:its.length ≤ maxLen) (hs:s.size ≤ maxLen) :
  ∃ a c,v = .slice a its.length c ∧ ExQ Q w (h + 1) ⟨k,nn,s,its.map (·.1)⟩ a:=by
 have hl:its.length = n:=by have:=hown.1; rw [cells4_len] at this; omega
 subst hl
 rcases hown.2 with ⟨rfl,h0⟩ | ⟨g,cap,cur,rfl,hg,hh,_,_,_,ht⟩
 ·refine ⟨none,0,by rw [h0],hs,by simp; omega,fun i k hk => ?_⟩
  have:=(List.getElem?_eq_some_iff.1 hk).1
  simp at this
  omega
 ·refine ⟨_,cap,rfl,hs,by simpa using hlen,fun i k hk => ?_⟩
  obtain ⟨it,hi,rfl⟩:∃ it,its[i]? = some it ∧ it.1 = k:=by simpa using hk
  have hlt:=(List.getElem?_eq_some_iff.1 hi).1
  have key:∀ j,j < 4 → w.cell? ⟨g,0 + i * 4 + j,none⟩ = (itc it)[j]?:=by
   intro j hj
   have e:=cells4_get its i it hi j hj
   rw [← ht,List.getElem?_take,if_pos (by omega)] at e
   rw [Nat.zero_add,← e]
   simp [World.cell?,hh]
  exact ⟨g,0,it.2.1,it.2.2,rfl,hQ g rfl,key 0 (by decide),key 1 (by decide),key 2 (by decide),key 3 (by decide),hit it (List.mem_of_getElem? hi)⟩
end Go.Proofs.YtpnljpdpobbiiaaGreatDoor
-- Re8
namespace Go.Proofs.YtpnljpdpobbiiaaGreatDoor
open Go.RowKit
theorem ex_news {w:World} {K:Nat} {x:Sy.Ex} {a:Option Addr} {c:Nat} (h:w.heap[K]? = some (exO x.kind x.n x.name (.slice a x.kids.length c))):∀ j u,(cells4 [(x,a,c)])[j]? = some u → w.cell? ((⟨K,0,none⟩:Addr).add j) = some u:=by
 intro j u hu
 have hadd:(⟨K,0,none⟩:Addr).add j = ⟨K,j,none⟩:=by unfold Addr.add; split <;> simp_all
 rw [hadd]
 have e:cells4 [(x,a,c)] = [.int .i64 x.kind,.int .i64 x.n,.string x.name,.slice a x.kids.length c]:=rfl
 rw [e] at hu
 match j,hu with
 | 0,hu => simp at hu; subst hu; simp [World.cell?,h]
 | 1,hu => simp at hu; subst hu; simp [World.cell?,h]
 | 2,hu => simp at hu; subst hu; simp [World.cell?,h]
 | 3,hu => simp at hu; subst hu; simp [World.cell?,h]
 | n + 4,hu => simp at hu
end Go.Proofs.YtpnljpdpobbiiaaGreatDoor
-- Re11
namespace Go.Proofs.YtpnljpdpobbiiaaGreatDoor
open Go.RowKit
theorem run_append_where {P:Program} (w:World) (base:Nat) (t ty e:TypeId) (i:TypeInfo) (z:Value) (size bytes:Nat) (ht:P.underlying t = some (.slice e)) (hi:P.info? e = some i) (hz:i.zero = some z)
  (hsize:i.size = size) (hby:i.bytes = bytes) (hzs:z.cells.size = size) (hsz:0 < size)
  (v:Value) (n:Nat) (xs:List Value) (hown:w.ownsRow base e size v n xs)
  (a:Addr) (m c:Nat) (news:List Value) (hl:news.length = m * size) (hnews:∀ j u,news[j]? = some u → w.cell? (a.add j) = some u) (h1:∀ u ∈ news,u.oneCell' = true)
  (h0:0 < m) (h63:n + m ≤ maxLen) (hbytes:(n + m) * bytes ≤ 140737488355328) (hbase:base ≤ w.heap.size) :
  ∃ v' w',(Builtin.append_ #[t,t] ty #[v,.slice (some a) m c]).run P w = .ok v' w' ∧ w'.ownsRow base e size v' (n + m) (xs ++ news) ∧ w.grownBy w' v.ownBlock ∧
   ∃ g cap,v' = .slice (some ⟨g,0,none⟩) (n + m) cap ∧ (v.ownBlock = some g ∨ g = w.heap.size):=by
 obtain ⟨v',w',hr,h2,h3,_⟩:=run_append_own (P:=P) w base t ty e i z size bytes ht hi hz hsize hby hzs hsz v n xs hown a m c news hl hnews h1 h63 hbytes hbase
 refine ⟨v',w',hr,h2,h3,?_⟩
 have hsmall:n + m ≤ 9223372036854775807:=by simp only [maxLen] at h63; omega
 subst hsize
 subst hby
 rcases hown.2 with ⟨rfl,rfl⟩ | ⟨g,cap,cur,rfl,hbg,hg,hnc,hcm,hcs,htake⟩
 ·have hq:=run_append_nil (P:=P) w t ty e i z ht hi hz a m c news hl hnews h0 (by omega) (by have hb:=hbytes; simp only [Nat.zero_add] at hb; omega)
  rw [hr] at hq
  injection hq with e1 e2
  exact ⟨w.heap.size,_,by rw [e1,Nat.zero_add],.inr rfl⟩
 ·by_cases hroom:n + m ≤ cap
  ·have hfit:n * i.size + news.length ≤ cur.size:=by rw [hl,hcs,← Nat.add_mul]; exact Nat.mul_le_mul_right _ hroom
   have hq:=run_append_room (P:=P) w t ty e i ht hi g n cap cur hg a m c news hl hnews h1 hroom hfit
   rw [hr] at hq
   injection hq with e1 e2
   exact ⟨g,cap,e1,.inl rfl⟩
  ·have hq:=run_append_grow (P:=P) w t ty e i z ht hi hz ⟨g,0,none⟩ n cap xs hown.1 (hown.cells (g:=g) rfl) a m c news hl hnews (by omega) (by omega) (growslice_fits (by omega) hbytes)
   rw [hr] at hq
   injection hq with e1 e2
   exact ⟨w.heap.size,_,e1,.inr rfl⟩
theorem wpList_append_where {P:Program} {w:World} {ops:Array Oper} {rest:List Oper} {o:Oper} {a:Act} {Q:Exit → Act → World → Prop} (hgd:o.guard = none) (s x:Operand) (t:TypeId)
  (ho:o.op = .call { callee:=.builtin .append,args:=#[s,x],argTypes:=#[t,t] })
  (base:Nat) (e:TypeId) (i:TypeInfo) (z:Value) (size bytes:Nat) (ht:P.underlying t = some (.slice e)) (hi:P.info? e = some i) (hz:i.zero = some z)
  (hsize:i.size = size) (hby:i.bytes = bytes) (hzs:z.cells.size = size) (hsz:0 < size)
  (v:Value) (n:Nat) (xs:List Value) (hs:a.eval s = v) (hown:w.ownsRow base e size v n xs)
  (ad:Addr) (m c:Nat) (news:List Value) (hx:a.eval x = .slice (some ad) m c) (hl:news.length = m * size) (hnews:∀ j u,news[j]? = some u → w.cell? (ad.add j) = some u) (h1:∀ u ∈ news,u.oneCell' = true)
  (h0:0 < m) (h63:n + m ≤ maxLen) (hbytes:(n + m) * bytes ≤ 140737488355328) (hbase:base ≤ w.heap.size)
  (h:∀ g cap w',w'.ownsRow base e size (.slice (some ⟨g,0,none⟩) (n + m) cap) (n + m) (xs ++ news) → w.grownBy w' v.ownBlock → (v.ownBlock = some g ∨ g = w.heap.size) → wpList P ops Q rest (a.put o.dst (.slice (some ⟨g,0,none⟩) (n + m) cap)) w'):wpList P ops Q (o :: rest) a w:=by
 refine wpList_plain hgd fun K hK => ?_
 obtain ⟨v',w',hr,h2,h3,g,cap,rfl,h4⟩:=run_append_where (P:=P) w base t o.type e i z size bytes ht hi hz hsize hby hzs hsz v n xs hown ad m c news hl hnews h1 h0 h63 hbytes hbase
 unfold Oper.wp
 simp [execOp,ho,resolve,invoke,builtin,hs,hx,hr,Result.andThen]
 exact hK _ _ (h g cap w' h2 h3 h4)
end Go.Proofs.YtpnljpdpobbiiaaGreatDoor
-- Re12
namespace Go.Proofs.YtpnljpdpobbiiaaGreatDoor
open Go.RowKit
abbrev z4:List Value:=[.int .i64 0,.int .i64 0,.string ⟨#[]⟩,.slice none 0 0]
theorem grown_cell (w:World) (a:Addr) (u:Value):w.grownBy (w.setCell a u) (some a.block) :=
 ⟨rfl,rfl,rfl,Nat.le_of_eq (World.setCell_size w a u).symm,fun b _ hb => Below.heap_setCell _ _ _ _ (fun e => hb (by rw [e]))⟩
end Go.Proofs.YtpnljpdpobbiiaaGreatDoor
-- Re13
namespace Go.Proofs.YtpnljpdpobbiiaaGreatDoor
open Go.RowKit
theorem step_append_where {P:Program} {ops:Array Oper} {o:Oper} {a:Act} {w:World} {K:Act → World → Prop} {Q:Exit → Act → World → Prop} {F:Prop} (hgd:o.guard = none) (s x:Operand) (t:TypeId)
  (ho:o.op = .call { callee:=.builtin .append,args:=#[s,x],argTypes:=#[t,t] })
  (base:Nat) (e:TypeId) (i:TypeInfo) (z:Value) (size bytes:Nat) (ht:P.underlying t = some (.slice e)) (hi:P.info? e = some i) (hz:i.zero = some z)
  (hsize:i.size = size) (hby:i.bytes = bytes) (hzs:z.cells.size = size) (hsz:0 < size)
  (v:Value) (n:Nat) (xs:List Value) (hs:a.eval s = v) (hown:w.ownsRow base e size v n xs)
  (ad:Addr) (m c:Nat) (news:List Value) (hx:a.eval x = .slice (some ad) m c) (hl:news.length = m * size) (hnews:∀ j u,news[j]? = some u → w.cell? (ad.add j) = some u) (h1:∀ u ∈ news,u.oneCell' = true)
  (h0:0 < m) (h63:n + m ≤ maxLen) (hbytes:(n + m) * bytes ≤ 140737488355328) (hbase:base ≤ w.heap.size)
  (h:∀ g cap w',w'.ownsRow base e size (.slice (some ⟨g,0,none⟩) (n + m) cap) (n + m) (xs ++ news) → w.grownBy w' v.ownBlock → (v.ownBlock = some g ∨ g = w.heap.size) → K (a.put o.dst (.slice (some ⟨g,0,none⟩) (n + m) cap)) w') :
  if Region.wanted o (yielded ops a.tmps) = true then Oper.wp P o a w K Q else F:=by
 have hw:Region.wanted o (yielded ops a.tmps) = true:=by simp [Region.wanted,hgd]
 rw [if_pos hw]
 obtain ⟨v',w',hr,h2,h3,g,cap,rfl,h4⟩:=run_append_where (P:=P) w base t o.type e i z size bytes ht hi hz hsize hby hzs hsz v n xs hown ad m c news hl hnews h1 h0 h63 hbytes hbase
 unfold Oper.wp
 simp [execOp,ho,resolve,invoke,builtin,hs,hx,hr,Result.andThen]
 exact h g cap w' h2 h3 h4
end Go.Proofs.YtpnljpdpobbiiaaGreatDoor
-- Tu2
namespace Go.Proofs.YtpnljpdpobbiiaaGreatDoor
open Go.RowKit
namespace Sy
def exB:Nat → Ex → Ex
 | 0,x => x
 | d + 1,x => ⟨x.kind,if x.kind = 1 ∨ x.kind = 2 then x.n else 0,if x.kind = 3 ∨ x.kind = 19 ∨ x.kind = 20 ∨ x.kind = 22 then x.name else ⟨#[]⟩,x.kids.map (exB d)⟩
end Sy
namespace Rp
section
end
end Rp
end Go.Proofs.YtpnljpdpobbiiaaGreatDoor
-- Sx1
namespace Go.Proofs.YtpnljpdpobbiiaaGreatDoor
open Go.RowKit
theorem hideX {p:Prop} (h:p):Hid p:=h
theorem sx_cells {w:World} {b:Nat} {v0 v1 v2 v3:Value} {t:TypeId} (h:w.heap[b]? = some (.cells #[v0,v1,v2,v3] t (0,0))) :
  w.cell? ⟨b,0,none⟩ = some v0 ∧ w.cell? ⟨b,1,none⟩ = some v1 ∧ w.cell? ⟨b,2,none⟩ = some v2 ∧ w.cell? ⟨b,3,none⟩ = some v3:=by simp [World.cell?,h]
theorem sx_at1 (w:World) (o p:Obj):((w.alloc o).alloc p).heap[w.heap.size]? = some o:=by
 rw [Below.heap_alloc _ _ _ (by simp)]; exact heap_alloc_new w o
theorem sx_at2 (w:World) (o p:Obj):((w.alloc o).alloc p).heap[w.heap.size + 1]? = some p:=by
 have:=heap_alloc_new (w.alloc o) p
 simpa using this
theorem sx_bel2 (w:World) (o p:Obj):Below w.heap.size w ((w.alloc o).alloc p):=((Below.refl _ w).alloc (Nat.le_refl _) _).alloc (by simp) _
theorem sx_cell {u v:World} {N o:Nat} {x:Value} (hb:Below u.heap.size u v) (hN:N < u.heap.size) (h:u.cell? ⟨N,o,none⟩ = some x):v.cell? ⟨N,o,none⟩ = some x:=(hb.cell (p:=⟨N,o,none⟩) hN).trans h
end Go.Proofs.YtpnljpdpobbiiaaGreatDoor
-- Tu6
namespace Go.Proofs.YtpnljpdpobbiiaaGreatDoor
open Go.RowKit
namespace Sy
def stB:Nat → St → St
 | 0,s => s
 | d + 1,s => ⟨s.kind,if s.kind = 1 ∨ s.kind = 2 ∨ s.kind = 7 then s.name else ⟨#[]⟩,if s.kind = 6 then ⟨0,0,⟨#[]⟩,[]⟩ else exB d s.x,if s.kind = 3 ∨ s.kind = 4 then s.body.map (stB d) else [],if s.kind = 3 then s.els.map (stB d) else []⟩
end Sy
namespace Rp
section
end
end Rp
end Go.Proofs.YtpnljpdpobbiiaaGreatDoor
-- Rs2
namespace Go.Proofs.YtpnljpdpobbiiaaGreatDoor
open Go.RowKit
def RowQ (Q:Nat → Prop) (w:World) (P:Sy.St → Option Addr → Option Addr → Option Addr → Prop) (l:List Sy.St) (a:Option Addr):Prop :=
 ∀ i s,l[i]? = some s → ∃ b off xa xc ba bc ea ec,a = some ⟨b,off,none⟩ ∧ Q b ∧
   w.cell? ⟨b,off + i * 8,none⟩ = some (.int .i64 s.kind) ∧ w.cell? ⟨b,off + i * 8 + 1,none⟩ = some (.string s.name) ∧
   w.cell? ⟨b,off + i * 8 + 2,none⟩ = some (.int .i64 s.x.kind) ∧ w.cell? ⟨b,off + i * 8 + 3,none⟩ = some (.int .i64 s.x.n) ∧ w.cell? ⟨b,off + i * 8 + 4,none⟩ = some (.string s.x.name) ∧
   w.cell? ⟨b,off + i * 8 + 5,none⟩ = some (.slice xa s.x.kids.length xc) ∧ w.cell? ⟨b,off + i * 8 + 6,none⟩ = some (.slice ba s.body.length bc) ∧
   w.cell? ⟨b,off + i * 8 + 7,none⟩ = some (.slice ea s.els.length ec) ∧ P s xa ba ea
def StQ (Q:Nat → Prop) (w:World):Nat → Sy.St → Option Addr → Option Addr → Option Addr → Prop
 | 0,_,_,_,_ => False
 | h + 1,s,xa,ba,ea => s.name.size ≤ maxLen ∧ (∃ hx,ExQ Q w hx s.x xa) ∧ s.body.length ≤ maxLen ∧ s.els.length ≤ maxLen ∧ RowQ Q w (StQ Q w h) s.body ba ∧ RowQ Q w (StQ Q w h) s.els ea
theorem RowQ.keep {Q Q':Nat → Prop} {w w':World} (hk:∀ b,Q b → Q' b ∧ w'.heap[b]? = w.heap[b]?) {P P':Sy.St → Option Addr → Option Addr → Option Addr → Prop} (hP:∀ s x b e,P s x b e → P' s x b e) {l:List Sy.St} {a:Option Addr} (h:RowQ Q w P l a):RowQ Q' w' P' l a:=fun i s hi => by
 obtain ⟨b,off,xa,xc,ba,bc,ea,ec,ha,hb,c0,c1,c2,c3,c4,c5,c6,c7,hin⟩:=h i s hi
 have hc:∀ o,w'.cell? ⟨b,o,none⟩ = w.cell? ⟨b,o,none⟩:=fun o => World.cell?_of_block (a:=⟨b,o,none⟩) (hk b hb).2
 exact ⟨b,off,xa,xc,ba,bc,ea,ec,ha,(hk b hb).1,(hc _).trans c0,(hc _).trans c1,(hc _).trans c2,(hc _).trans c3,(hc _).trans c4,(hc _).trans c5,(hc _).trans c6,(hc _).trans c7,hP _ _ _ _ hin⟩
theorem StQ.keep {Q Q':Nat → Prop} {w w':World} (hk:∀ b,Q b → Q' b ∧ w'.heap[b]? = w.heap[b]?):∀ {h:Nat} {s:Sy.St} {xa ba ea:Option Addr},StQ Q w h s xa ba ea → StQ Q' w' h s xa ba ea
 | 0,_,_,_,_,h => h
 | _ + 1,_,_,_,_,⟨h1,⟨hx,h2⟩,h3,h4,h5,h6⟩ => ⟨h1,⟨hx,h2.keep hk⟩,h3,h4,h5.keep hk (fun _ _ _ _ => StQ.keep hk),h6.keep hk (fun _ _ _ _ => StQ.keep hk)⟩
theorem RowQ.mono {Q:Nat → Prop} {w:World} {P P':Sy.St → Option Addr → Option Addr → Option Addr → Prop} (hP:∀ s x b e,P s x b e → P' s x b e) {l:List Sy.St} {a:Option Addr} (h:RowQ Q w P l a):RowQ Q w P' l a:=h.keep (fun _ hb => ⟨hb,rfl⟩) hP
theorem RowQ.nil (Q:Nat → Prop) (w:World) (P:Sy.St → Option Addr → Option Addr → Option Addr → Prop) (a:Option Addr):RowQ Q w P [] a:=fun i s hi => by simp at hi
abbrev sttO (k:Int) (s:ByteArray) (xk xn:Int) (xs:ByteArray) (xv bv ev:Value):Obj:=.cells #[.int .i64 k,.string s,.int .i64 xk,.int .i64 xn,.string xs,xv,bv,ev] 94 (0,0)
theorem st_cells {w:World} {N:Nat} {k xk xn:Int} {s xs:ByteArray} {xv bv ev:Value} (h:w.heap[N]? = some (sttO k s xk xn xs xv bv ev)) :
  (w.cell? ⟨N,0,none⟩ = some (.int .i64 k) ∧ w.cell? ⟨N,1,none⟩ = some (.string s) ∧ w.cell? ⟨N,2,none⟩ = some (.int .i64 xk) ∧ w.cell? ⟨N,3,none⟩ = some (.int .i64 xn) ∧ w.cell? ⟨N,4,none⟩ = some (.string xs) ∧ w.cell? ⟨N,5,none⟩ = some xv ∧ w.cell? ⟨N,6,none⟩ = some bv ∧ w.cell? ⟨N,7,none⟩ = some ev) ∧
  w.frozen? ⟨N,0,none⟩ = false ∧ w.frozen? ⟨N,1,none⟩ = false ∧ w.frozen? ⟨N,2,none⟩ = false ∧ w.frozen? ⟨N,3,none⟩ = false ∧ w.frozen? ⟨N,4,none⟩ = false ∧ w.frozen? ⟨N,5,none⟩ = false ∧ w.frozen? ⟨N,6,none⟩ = false ∧ w.frozen? ⟨N,7,none⟩ = false:=by
 simp [World.cell?,World.frozen?,h]
end Go.Proofs.YtpnljpdpobbiiaaGreatDoor
-- Rs6
namespace Go.Proofs.YtpnljpdpobbiiaaGreatDoor
open Go.RowKit
abbrev Itm8:=Sy.St × (Option Addr × Nat) × (Option Addr × Nat) × (Option Addr × Nat)
abbrev itc8 (i:Itm8):List Value:=[.int .i64 i.1.kind,.string i.1.name,.int .i64 i.1.x.kind,.int .i64 i.1.x.n,.string i.1.x.name,.slice i.2.1.1 i.1.x.kids.length i.2.1.2,.slice i.2.2.1.1 i.1.body.length i.2.2.1.2,.slice i.2.2.2.1 i.1.els.length i.2.2.2.2]
def cells8 (its:List Itm8):List Value:=its.flatMap itc8
theorem cells8_len:∀ its,(cells8 its).length = its.length * 8
 | [] => rfl
 | i :: its => by have:=cells8_len its; simp only [cells8,List.flatMap_cons,List.length_append,List.length_cons] at *; simp only [this,List.length_nil]; omega
theorem cells8_app (l:List Itm8) (i:Itm8):cells8 (l ++ [i]) = cells8 l ++ itc8 i:=by simp [cells8]
theorem cells8_get:∀ (its:List Itm8) (i:Nat) (it:Itm8),its[i]? = some it → ∀ j,j < 8 → (cells8 its)[i * 8 + j]? = (itc8 it)[j]?
 | [],i,it,h,_,_ => by simp at h
 | x :: its,0,it,h,j,hj => by
  simp at h; subst h
  simp only [cells8,List.flatMap_cons,Nat.zero_mul,Nat.zero_add]
  rw [List.getElem?_append_left (by simpa using hj)]
 | x :: its,i + 1,it,h,j,hj => by
  have ih:=cells8_get its i it (by simpa using h) j hj
  simp only [cells8,List.flatMap_cons] at ih ⊢
  rw [List.getElem?_append_right (by simp; omega)]
  have e:(i + 1) * 8 + j - (itc8 x).length = i * 8 + j:=by simp; omega
  rw [e,ih]
theorem itc8_one (it:Itm8):∀ u ∈ itc8 it,u.oneCell' = true:=by
 intro u ho
 simp only [List.mem_cons,List.not_mem_nil,or_false] at ho
 rcases ho with rfl | rfl | rfl | rfl | rfl | rfl | rfl | rfl <;> rfl
theorem itc8_news (W:World) (it:Itm8) (t:TypeId):∀ j u,(itc8 it)[j]? = some u → (W.alloc (.cells (itc8 it).toArray t)).cell? ((⟨W.heap.size,0,none⟩:Addr).add j) = some u:=by
 intro j u hu
 have hadd:(⟨W.heap.size,0,none⟩:Addr).add j = ⟨W.heap.size,j,none⟩:=by unfold Addr.add; split <;> simp_all
 rw [hadd,World.cell?_alloc_mark]
 simpa using hu
theorem own_rowq {Q:Nat → Prop} {w:World} {B n h:Nat} {v:Value} {its:List Itm8} (hown:w.ownsRow B 94 8 v n (cells8 its)) (hit:∀ it ∈ its,StQ Q w h it.1 it.2.1.1 it.2.2.1.1 it.2.2.2.1) (hQ:∀ g,v.ownBlock = some g → Q g) :
  ∃ a c,v = .slice a its.length c ∧ RowQ Q w (StQ Q w h) (its.map (·.1)) a:=by
 have hl:its.length = n:=by have:=hown.1; rw [cells8_len] at this; omega
 subst hl
 rcases hown.2 with ⟨rfl,h0⟩ | ⟨g,cap,cur,rfl,hg,hh,_,_,_,ht⟩
 ·refine ⟨none,0,by rw [h0],fun i k hk => ?_⟩
  have:=(List.getElem?_eq_some_iff.1 hk).1
  simp at this
  omega
 ·refine ⟨_,cap,rfl,fun i k hk => ?_⟩
  obtain ⟨it,hi,rfl⟩:∃ it,its[i]? = some it ∧ it.1 = k:=by simpa using hk
  have hlt:=(List.getElem?_eq_some_iff.1 hi).1
  have key:∀ j,j < 8 → w.cell? ⟨g,0 + i * 8 + j,none⟩ = (itc8 it)[j]?:=by
   intro j hj
   have e:=cells8_get its i it hi j hj
   rw [← ht,List.getElem?_take,if_pos (by omega)] at e
   rw [Nat.zero_add,← e]
   simp [World.cell?,hh]
  exact ⟨g,0,it.2.1.1,it.2.1.2,it.2.2.1.1,it.2.2.1.2,it.2.2.2.1,it.2.2.2.2,rfl,hQ g rfl,key 0 (by decide),key 1 (by decide),key 2 (by decide),key 3 (by decide),key 4 (by decide),key 5 (by decide),key 6 (by decide),key 7 (by decide),hit it (List.mem_of_getElem? hi)⟩
end Go.Proofs.YtpnljpdpobbiiaaGreatDoor
-- Tu7
namespace Go.Proofs.YtpnljpdpobbiiaaGreatDoor
open Go.RowKit
namespace Sy
def tyB (t:Ty):Ty:=⟨t.kind,if t.kind = 3 then t.gen else ⟨#[]⟩⟩
def pmB (p:Pm):Pm:=⟨p.name,tyB p.ty⟩
def dfB (d:Df):Df:=⟨d.kind,d.name,if d.kind = 4 then ⟨0,⟨#[]⟩⟩ else tyB d.ty,if d.kind = 3 then tyB d.takes else ⟨0,⟨#[]⟩⟩,if d.kind = 1 then d.cap else 0,if d.kind = 2 ∨ d.kind = 3 then d.params.map pmB else [],if d.kind = 1 then [] else d.body.map (stB 39)⟩
end Sy
namespace Rp
section
end
end Rp
end Go.Proofs.YtpnljpdpobbiiaaGreatDoor
-- Rs8
namespace Go.Proofs.YtpnljpdpobbiiaaGreatDoor
open Go.RowKit
abbrev itc3 (i:Sy.Pm):List Value:=[.string i.name,.int .i64 i.ty.kind,.string i.ty.gen]
def cells3 (its:List Sy.Pm):List Value:=its.flatMap itc3
theorem cells3_app (l:List Sy.Pm) (i:Sy.Pm):cells3 (l ++ [i]) = cells3 l ++ itc3 i:=by simp [cells3]
theorem cells3_get:∀ (its:List Sy.Pm) (i:Nat) (it:Sy.Pm),its[i]? = some it → ∀ j,j < 3 → (cells3 its)[i * 3 + j]? = (itc3 it)[j]?
 | [],i,it,h,_,_ => by simp at h
 | x :: its,0,it,h,j,hj => by
  simp at h; subst h
  simp only [cells3,List.flatMap_cons,Nat.zero_mul,Nat.zero_add]
  rw [List.getElem?_append_left (by simpa using hj)]
 | x :: its,i + 1,it,h,j,hj => by
  have ih:=cells3_get its i it (by simpa using h) j hj
  simp only [cells3,List.flatMap_cons] at ih ⊢
  rw [List.getElem?_append_right (by simp; omega)]
  have e:(i + 1) * 3 + j - (itc3 x).length = i * 3 + j:=by simp; omega
  rw [e,ih]
theorem itc3_one (it:Sy.Pm):∀ u ∈ itc3 it,u.oneCell' = true:=by
 intro u ho
 simp only [List.mem_cons,List.not_mem_nil,or_false] at ho
 rcases ho with rfl | rfl | rfl <;> rfl
theorem itc3_news (W:World) (it:Sy.Pm) (t:TypeId):∀ j u,(itc3 it)[j]? = some u → (W.alloc (.cells (itc3 it).toArray t)).cell? ((⟨W.heap.size,0,none⟩:Addr).add j) = some u:=by
 intro j u hu
 have hadd:(⟨W.heap.size,0,none⟩:Addr).add j = ⟨W.heap.size,j,none⟩:=by unfold Addr.add; split <;> simp_all
 rw [hadd,World.cell?_alloc_mark]
 simpa using hu
def PmsQ (Q:Nat → Prop) (w:World) (l:List Sy.Pm) (a:Option Addr):Prop :=
 l.length ≤ maxLen ∧ ∀ i p,l[i]? = some p → ∃ b off,a = some ⟨b,off,none⟩ ∧ Q b ∧ w.cell? ⟨b,off + i * 3,none⟩ = some (.string p.name) ∧
   w.cell? ⟨b,off + i * 3 + 1,none⟩ = some (.int .i64 p.ty.kind) ∧ w.cell? ⟨b,off + i * 3 + 2,none⟩ = some (.string p.ty.gen) ∧ p.name.size ≤ maxLen ∧ p.ty.gen.size ≤ maxLen
theorem PmsQ.keep {Q Q':Nat → Prop} {w w':World} (hk:∀ b,Q b → Q' b ∧ w'.heap[b]? = w.heap[b]?) {l:List Sy.Pm} {a:Option Addr} (h:PmsQ Q w l a):PmsQ Q' w' l a:=⟨h.1,fun i p hi => by
 obtain ⟨b,off,ha,hb,c0,c1,c2,r⟩:=h.2 i p hi
 have hc:∀ o,w'.cell? ⟨b,o,none⟩ = w.cell? ⟨b,o,none⟩:=fun o => World.cell?_of_block (a:=⟨b,o,none⟩) (hk b hb).2
 exact ⟨b,off,ha,(hk b hb).1,(hc _).trans c0,(hc _).trans c1,(hc _).trans c2,r⟩⟩
end Go.Proofs.YtpnljpdpobbiiaaGreatDoor
-- Rt1
namespace Go.Proofs.YtpnljpdpobbiiaaGreatDoor
open Go.RowKit
def DfQ (Q:Nat → Prop) (w:World) (d:Sy.Df) (pa ba:Option Addr):Prop :=
 d.name.size ≤ maxLen ∧ d.ty.gen.size ≤ maxLen ∧ d.takes.gen.size ≤ maxLen ∧ PmsQ Q w d.params pa ∧ d.body.length ≤ maxLen ∧ ∃ h,RowQ Q w (StQ Q w h) d.body ba
theorem DfQ.keep {Q Q':Nat → Prop} {w w':World} (hk:∀ b,Q b → Q' b ∧ w'.heap[b]? = w.heap[b]?) {d:Sy.Df} {pa ba:Option Addr} (h:DfQ Q w d pa ba):DfQ Q' w' d pa ba :=
 ⟨h.1,h.2.1,h.2.2.1,h.2.2.2.1.keep hk,h.2.2.2.2.1,h.2.2.2.2.2.elim fun n hn => ⟨n,RowQ.keep hk (fun _ _ _ _ hx => StQ.keep hk hx) hn⟩⟩
theorem PmsQ.nil (Q:Nat → Prop) (w:World) (a:Option Addr):PmsQ Q w [] a:=⟨Nat.zero_le _,fun i p hi => by simp at hi⟩
abbrev dffO (k:Int) (s:ByteArray) (tk:Int) (tg:ByteArray) (uk:Int) (ug:ByteArray) (c:Int) (pv bv:Value):Obj:=.cells #[.int .i64 k,.string s,.int .i64 tk,.string tg,.int .i64 uk,.string ug,.int .i64 c,pv,bv] 35 (0,0)
theorem df_cells {w:World} {N:Nat} {k tk uk c:Int} {s tg ug:ByteArray} {pv bv:Value} (h:w.heap[N]? = some (dffO k s tk tg uk ug c pv bv)) :
  (w.cell? ⟨N,0,none⟩ = some (.int .i64 k) ∧ w.cell? ⟨N,1,none⟩ = some (.string s) ∧ w.cell? ⟨N,2,none⟩ = some (.int .i64 tk) ∧ w.cell? ⟨N,3,none⟩ = some (.string tg) ∧ w.cell? ⟨N,4,none⟩ = some (.int .i64 uk) ∧ w.cell? ⟨N,5,none⟩ = some (.string ug) ∧ w.cell? ⟨N,6,none⟩ = some (.int .i64 c) ∧ w.cell? ⟨N,7,none⟩ = some pv ∧ w.cell? ⟨N,8,none⟩ = some bv) ∧
  w.frozen? ⟨N,0,none⟩ = false ∧ w.frozen? ⟨N,1,none⟩ = false ∧ w.frozen? ⟨N,2,none⟩ = false ∧ w.frozen? ⟨N,3,none⟩ = false ∧ w.frozen? ⟨N,4,none⟩ = false ∧ w.frozen? ⟨N,5,none⟩ = false ∧ w.frozen? ⟨N,6,none⟩ = false ∧ w.frozen? ⟨N,7,none⟩ = false ∧ w.frozen? ⟨N,8,none⟩ = false:=by
 simp [World.cell?,World.frozen?,h]
section
variable {u:World} {S:Nat} {k tk uk c:Int} {s tg ug:ByteArray} {pv bv:Value}
theorem df_set2 (h:u.heap[S]? = some (dffO k s tk tg uk ug c pv bv)) (tk':Int) (tg':ByteArray):((u.setCell ⟨S,2,none⟩ (.int .i64 tk')).setCell ⟨S,3,none⟩ (.string tg')).heap[S]? = some (dffO k s tk' tg' uk ug c pv bv):=by
 simp only [World.setCell,Array.getElem?_modify,if_true,h,Option.map_some]
 rfl
theorem df_set4 (h:u.heap[S]? = some (dffO k s tk tg uk ug c pv bv)) (uk':Int) (ug':ByteArray):((u.setCell ⟨S,4,none⟩ (.int .i64 uk')).setCell ⟨S,5,none⟩ (.string ug')).heap[S]? = some (dffO k s tk tg uk' ug' c pv bv):=by
 simp only [World.setCell,Array.getElem?_modify,if_true,h,Option.map_some]
 rfl
theorem df_set6 (h:u.heap[S]? = some (dffO k s tk tg uk ug c pv bv)) (c':Int):(u.setCell ⟨S,6,none⟩ (.int .i64 c')).heap[S]? = some (dffO k s tk tg uk ug c' pv bv):=by
 simp only [World.setCell,Array.getElem?_modify,if_true,h,Option.map_some]
 rfl
theorem df_set7 (h:u.heap[S]? = some (dffO k s tk tg uk ug c pv bv)) (v:Value):(u.setCell ⟨S,7,none⟩ v).heap[S]? = some (dffO k s tk tg uk ug c v bv):=by
 simp only [World.setCell,Array.getElem?_modify,if_true,h,Option.map_some]
 rfl
theorem df_set8 (h:u.heap[S]? = some (dffO k s tk tg uk ug c pv bv)) (v:Value):(u.setCell ⟨S,8,none⟩ v).heap[S]? = some (dffO k s tk tg uk ug c pv v):=by
 simp only [World.setCell,Array.getElem?_modify,if_true,h,Option.map_some]
 rfl
end
end Go.Proofs.YtpnljpdpobbiiaaGreatDoor
-- Rt4
namespace Go.Proofs.YtpnljpdpobbiiaaGreatDoor
open Go.RowKit
abbrev Itm9:=Sy.Df × (Option Addr × Nat) × (Option Addr × Nat)
abbrev itc9 (i:Itm9):List Value:=[.int .i64 i.1.kind,.string i.1.name,.int .i64 i.1.ty.kind,.string i.1.ty.gen,.int .i64 i.1.takes.kind,.string i.1.takes.gen,.int .i64 i.1.cap,.slice i.2.1.1 i.1.params.length i.2.1.2,.slice i.2.2.1 i.1.body.length i.2.2.2]
def cells9 (its:List Itm9):List Value:=its.flatMap itc9
theorem cells9_len:∀ its,(cells9 its).length = its.length * 9
 | [] => rfl
 | i :: its => by have:=cells9_len its; simp only [cells9,List.flatMap_cons,List.length_append,List.length_cons] at *; simp only [this,List.length_nil]; omega
theorem cells9_app (l:List Itm9) (i:Itm9):cells9 (l ++ [i]) = cells9 l ++ itc9 i:=by simp [cells9]
theorem cells9_get:∀ (its:List Itm9) (i:Nat) (it:Itm9),its[i]? = some it → ∀ j,j < 9 → (cells9 its)[i * 9 + j]? = (itc9 it)[j]?
 | [],i,it,h,_,_ => by simp at h
 | x :: its,0,it,h,j,hj => by
  simp at h; subst h
  simp only [cells9,List.flatMap_cons,Nat.zero_mul,Nat.zero_add]
  rw [List.getElem?_append_left (by simpa using hj)]
 | x :: its,i + 1,it,h,j,hj => by
  have ih:=cells9_get its i it (by simpa using h) j hj
  simp only [cells9,List.flatMap_cons] at ih ⊢
  rw [List.getElem?_append_right (by simp; omega)]
  have e:(i + 1) * 9 + j - (itc9 x).length = i * 9 + j:=by simp; omega
  rw [e,ih]
theorem itc9_one (it:Itm9):∀ u ∈ itc9 it,u.oneCell' = true:=by
 intro u ho
 simp only [List.mem_cons,List.not_mem_nil,or_false] at ho
 rcases ho with rfl | rfl | rfl | rfl | rfl | rfl | rfl | rfl | rfl <;> rfl
theorem itc9_news (W:World) (it:Itm9) (t:TypeId):∀ j u,(itc9 it)[j]? = some u → (W.alloc (.cells (itc9 it).toArray t)).cell? ((⟨W.heap.size,0,none⟩:Addr).add j) = some u:=by
 intro j u hu
 have hadd:(⟨W.heap.size,0,none⟩:Addr).add j = ⟨W.heap.size,j,none⟩:=by unfold Addr.add; split <;> simp_all
 rw [hadd,World.cell?_alloc_mark]
 simpa using hu
def DfsQ (Q:Nat → Prop) (w:World) (l:List Sy.Df) (a:Option Addr):Prop :=
 ∀ i d,l[i]? = some d → ∃ b off pa pc ba bc,a = some ⟨b,off,none⟩ ∧ Q b ∧
   w.cell? ⟨b,off + i * 9,none⟩ = some (.int .i64 d.kind) ∧ w.cell? ⟨b,off + i * 9 + 1,none⟩ = some (.string d.name) ∧
   w.cell? ⟨b,off + i * 9 + 2,none⟩ = some (.int .i64 d.ty.kind) ∧ w.cell? ⟨b,off + i * 9 + 3,none⟩ = some (.string d.ty.gen) ∧
   w.cell? ⟨b,off + i * 9 + 4,none⟩ = some (.int .i64 d.takes.kind) ∧ w.cell? ⟨b,off + i * 9 + 5,none⟩ = some (.string d.takes.gen) ∧
   w.cell? ⟨b,off + i * 9 + 6,none⟩ = some (.int .i64 d.cap) ∧ w.cell? ⟨b,off + i * 9 + 7,none⟩ = some (.slice pa d.params.length pc) ∧
   w.cell? ⟨b,off + i * 9 + 8,none⟩ = some (.slice ba d.body.length bc) ∧ DfQ Q w d pa ba
theorem DfsQ.keep {Q Q':Nat → Prop} {w w':World} (hk:∀ b,Q b → Q' b ∧ w'.heap[b]? = w.heap[b]?) {l:List Sy.Df} {a:Option Addr} (h:DfsQ Q w l a):DfsQ Q' w' l a:=fun i d hi => by
 obtain ⟨b,off,pa,pc,ba,bc,ha,hb,r1,r2,r3,r4,r5,r6,r7,r8,r9,hin⟩:=h i d hi
 have hc:∀ o,w'.cell? ⟨b,o,none⟩ = w.cell? ⟨b,o,none⟩:=fun o => World.cell?_of_block (a:=⟨b,o,none⟩) (hk b hb).2
 exact ⟨b,off,pa,pc,ba,bc,ha,(hk b hb).1,(hc _).trans r1,(hc _).trans r2,(hc _).trans r3,(hc _).trans r4,(hc _).trans r5,(hc _).trans r6,(hc _).trans r7,(hc _).trans r8,(hc _).trans r9,hin.keep hk⟩
theorem own_dfs {Q:Nat → Prop} {w:World} {B n:Nat} {v:Value} {its:List Itm9} (hown:w.ownsRow B 35 9 v n (cells9 its)) (hit:∀ it ∈ its,DfQ Q w it.1 it.2.1.1 it.2.2.1) (hQ:∀ g,v.ownBlock = some g → Q g) :
  ∃ a c,v = .slice a its.length c ∧ DfsQ Q w (its.map (·.1)) a:=by
 have hl:its.length = n:=by have:=hown.1; rw [cells9_len] at this; omega
 subst hl
 rcases hown.2 with ⟨rfl,h0⟩ | ⟨g,cap,cur,rfl,hg,hh,_,_,_,ht⟩
 ·refine ⟨none,0,by rw [h0],fun i k hk => ?_⟩
  have:=(List.getElem?_eq_some_iff.1 hk).1
  simp at this
  omega
 ·refine ⟨_,cap,rfl,fun i k hk => ?_⟩
  obtain ⟨it,hi,rfl⟩:∃ it,its[i]? = some it ∧ it.1 = k:=by simpa using hk
  have hlt:=(List.getElem?_eq_some_iff.1 hi).1
  have key:∀ j,j < 9 → w.cell? ⟨g,0 + i * 9 + j,none⟩ = (itc9 it)[j]?:=by
   intro j hj
   have e:=cells9_get its i it hi j hj
   rw [← ht,List.getElem?_take,if_pos (by omega)] at e
   rw [Nat.zero_add,← e]
   simp [World.cell?,hh]
  exact ⟨g,0,it.2.1.1,it.2.1.2,it.2.2.1,it.2.2.2,rfl,hQ g rfl,key 0 (by decide),key 1 (by decide),key 2 (by decide),key 3 (by decide),key 4 (by decide),key 5 (by decide),key 6 (by decide),key 7 (by decide),key 8 (by decide),hit it (List.mem_of_getElem? hi)⟩
theorem ExQ.toIn {Q:Nat → Prop} {w:World} {B:Nat} (hQ:∀ b,Q b → b < B):∀ {h:Nat} {x:Sy.Ex} {a:Option Addr},ExQ Q w h x a → ExIn B w h x a
 | 0,_,_,h => h
 | _ + 1,_,_,⟨h1,h2,h3⟩ => ⟨h1,h2,fun i k hk => by
   obtain ⟨b,off,a',c',ha,hb,c0,c1,c2,c3,hin⟩:=h3 i k hk
   exact ⟨b,off,a',c',ha,hQ b hb,c0,c1,c2,c3,ExQ.toIn hQ hin⟩⟩
theorem RowQ.toIn {Q:Nat → Prop} {w:World} {B:Nat} (hQ:∀ b,Q b → b < B) {P P':Sy.St → Option Addr → Option Addr → Option Addr → Prop} (hP:∀ s x b e,P s x b e → P' s x b e) {l:List Sy.St} {a:Option Addr} (h:RowQ Q w P l a):RowIn B w P' l a:=fun i s hi => by
 obtain ⟨b,off,xa,xc,ba,bc,ea,ec,ha,hb,r1,r2,r3,r4,r5,r6,r7,r8,hin⟩:=h i s hi
 exact ⟨b,off,xa,xc,ba,bc,ea,ec,ha,hQ b hb,r1,r2,r3,r4,r5,r6,r7,r8,hP _ _ _ _ hin⟩
theorem StQ.toIn {Q:Nat → Prop} {w:World} {B:Nat} (hQ:∀ b,Q b → b < B):∀ {h:Nat} {s:Sy.St} {xa ba ea:Option Addr},StQ Q w h s xa ba ea → StIn B w h s xa ba ea
 | 0,_,_,_,_,h => h
 | _ + 1,_,_,_,_,⟨h1,⟨hx,h2⟩,h3,h4,h5,h6⟩ => ⟨by omega,⟨hx,h2.toIn hQ⟩,by omega,by omega,h5.toIn hQ (fun _ _ _ _ => StQ.toIn hQ),h6.toIn hQ (fun _ _ _ _ => StQ.toIn hQ)⟩
theorem PmsQ.toIn {Q:Nat → Prop} {w:World} {B:Nat} (hQ:∀ b,Q b → b < B) {l:List Sy.Pm} {a:Option Addr} (h:PmsQ Q w l a):PmsIn B w l a:=⟨by exact h.1,fun i p hi => by
 obtain ⟨b,off,ha,hb,c0,c1,c2,h1,h2⟩:=h.2 i p hi
 exact ⟨b,off,ha,hQ b hb,c0,c1,c2,by omega,by omega⟩⟩
theorem DfQ.toIn {Q:Nat → Prop} {w:World} {B:Nat} (hQ:∀ b,Q b → b < B) {d:Sy.Df} {pa ba:Option Addr} (h:DfQ Q w d pa ba):DfIn B w d pa ba :=
 ⟨by exact h.1,by have:=h.2.1; omega,by have:=h.2.2.1; omega,h.2.2.2.1.toIn hQ,h.2.2.2.2.2.elim fun n hn => ⟨n,by have:=h.2.2.2.2.1; omega,hn.toIn hQ (fun _ _ _ _ hx => StQ.toIn hQ hx)⟩⟩
theorem DfsQ.toIn {Q:Nat → Prop} {w:World} {B:Nat} (hQ:∀ b,Q b → b < B) {l:List Sy.Df} {a:Option Addr} (h:DfsQ Q w l a) (hl:l.length ≤ maxLen):DfsIn B w l a:=⟨by omega,fun i d hi => by
 obtain ⟨b,off,pa,pc,ba,bc,ha,hb,r1,r2,r3,r4,r5,r6,r7,r8,r9,hin⟩:=h i d hi
 exact ⟨b,off,pa,pc,ba,bc,ha,hQ b hb,r1,r2,r3,r4,r5,r6,r7,r8,r9,hin.toIn hQ⟩⟩
theorem Tryz.info92:(Tryz.prog.info? 92).map (fun i => (i.zero,i.size,i.bytes)) = some (some (.agg #[.int .i64 0,.int .i64 0,.string ⟨#[]⟩,.slice none 0 0]),4,56):=by kernel_rfl
theorem Tryz.info94:(Tryz.prog.info? 94).map (fun i => (i.zero,i.size,i.bytes)) = some (some (.agg #[.int .i64 0,.string ⟨#[]⟩,.int .i64 0,.int .i64 0,.string ⟨#[]⟩,.slice none 0 0,.slice none 0 0,.slice none 0 0]),8,128):=by kernel_rfl
theorem Tryz.info58:(Tryz.prog.info? 58).map (fun i => (i.zero,i.size,i.bytes)) = some (some (.agg #[.string ⟨#[]⟩,.int .i64 0,.string ⟨#[]⟩]),3,40):=by kernel_rfl
theorem Tryz.info35:(Tryz.prog.info? 35).map (fun i => (i.zero,i.size,i.bytes)) = some (some (.agg #[.int .i64 0,.string ⟨#[]⟩,.int .i64 0,.string ⟨#[]⟩,.int .i64 0,.string ⟨#[]⟩,.int .i64 0,.slice none 0 0,.slice none 0 0]),9,128):=by kernel_rfl
end Go.Proofs.YtpnljpdpobbiiaaGreatDoor
