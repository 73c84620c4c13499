/- Plainly: the others' owners stay,and nobody owns the box more. -/
import Derived.Test.YtpnljpdpobbiiaaGreatDoorM48
import Derived.Test.YtpnljpdpobbiiaaGreatDoorM18
import Derived.Laws.AppendOwnNone
namespace Go.Proofs.YtpnljpdpobbiiaaGreatDoor
open Go.RowKit
namespace Sm
open Sy
theorem owners_open {l:List Df} {os:List Ow3} (h:owners l = .ok os):(wrongL l).1 = 0 ∧ prog l = none ∧ ∃ us ts,each (head l) l 0 = .ok us ∧ each (bodyT l) l 0 = .ok ts ∧ ownersFrom l ts (List.range l.length) = .ok os:=by
 rw [owners_eq] at h
 split at h
 ·cases h
 ·rename_i hw
  unfold owners2 at h
  split at h
  ·cases h
  ·rename_i hp
   split at h
   ·cases h
   ·rename_i us hh
    split at h
    ·cases h
    ·rename_i ts hb
     exact ⟨by simpa using hw,hp,us,ts,hh,hb,h⟩
theorem owners_mk {l:List Df} {os:List Ow3} {us:List Unit} {ts:List Tk} (hw:(wrongL l).1 = 0) (hp:prog l = none) (hh:each (head l) l 0 = .ok us) (hb:each (bodyT l) l 0 = .ok ts) (ho:ownersFrom l ts (List.range l.length) = .ok os):owners l = .ok os:=by
 rw [owners_eq,if_neg (by simpa using hw)]
 unfold owners2
 rw [hp]
 dsimp only
 rw [hh]
 dsimp only
 rw [hb]
 exact ho
theorem filter_new {sp sp':Nat → Bool} {L:Nat} (hs:∀ t,t < L → sp' t = sp t) (hL:sp' L = false):(List.range (L + 1)).filter sp' = (List.range L).filter sp:=by
 rw [List.range_succ,List.filter_append]
 simp only [List.filter_cons,hL,Bool.false_eq_true,if_false,List.filter_nil,List.append_nil]
 exact List.filter_congr fun t ht => hs t (List.mem_range.1 ht)
theorem only_more {l:List Df} {b:Df} {sp sp':Nat → Bool} (hs:∀ t,t < l.length → sp' t = sp t) (hL:sp' l.length = false):only (l ++ [b]) sp' = only l sp:=by
 unfold only
 rw [List.length_append,List.length_singleton,filter_new hs hL]
 have hm:∀ i,i ∈ (List.range l.length).filter sp → i < l.length:=fun i hi => List.mem_range.1 (List.mem_filter.1 hi).1
 match hq:(List.range l.length).filter sp with
 | [] => rfl
 | [i] => rw [hq] at hm; dsimp only; rw [at_more (hm i (by simp))]
 | i :: j :: r => rfl
theorem only_none {l:List Df} {sp:Nat → Bool} (hs:∀ t,t < l.length → sp t = false):only l sp = .ok ⟨#[]⟩:=by
 have h:(List.range l.length).filter sp = []:=List.filter_eq_nil_iff.2 fun t ht => by simp [hs t (List.mem_range.1 ht)]
 unfold only
 rw [h]
section
variable {l:List Df} {ts:List Tk} {b:Df} {x:Tk}
theorem tasks_more (hb:b.kind = 1) (hlen:ts.length = l.length) (hc:∀ n,n < ts.length → ∀ c ∈ (tkAt ts n).calls,c < ts.length) :
  (∀ t,t < l.length → tasksT (l ++ [b]) (ts ++ [x]) t = tasksT l ts t) ∧ tasksT (l ++ [b]) (ts ++ [x]) l.length = Tk.none:=by
 refine ⟨fun t ht => ?_,?_⟩
 ·unfold tasksT
  rw [at_more ht,reached_more hc (by omega)]
 ·unfold tasksT
  rw [at_new,if_neg (by omega)]
theorem owner_more (hb:b.kind = 1) (hlen:ts.length = l.length) (hc:∀ n,n < ts.length → ∀ c ∈ (tkAt ts n).calls,c < ts.length) {i:Nat} (hi:i < l.length):owner (l ++ [b]) (ts ++ [x]) i = owner l ts i:=by
 obtain ⟨h1,h2⟩:=tasks_more (x:=x) hb hlen hc
 unfold owner
 rw [only_more (sp:=fun t => decide (i ∈ (tasksT l ts t).sends)) (fun t ht => by rw [h1 t ht]) (by rw [h2]; simp [Tk.none]),only_more (sp:=fun t => decide (i ∈ (tasksT l ts t).recvs)) (fun t ht => by rw [h1 t ht]) (by rw [h2]; simp [Tk.none]),at_more hi]
theorem from_more (hb:b.kind = 1) (hlen:ts.length = l.length) (hc:∀ n,n < ts.length → ∀ c ∈ (tkAt ts n).calls,c < ts.length):∀ (is:List Nat),(∀ i ∈ is,i < l.length) → ownersFrom (l ++ [b]) (ts ++ [x]) is = ownersFrom l ts is
 | [],_ => rfl
 | i :: is,h => by
  have hi:=h i List.mem_cons_self
  rw [ownersFrom,ownersFrom,at_more hi,owner_more hb hlen hc hi,from_more hb hlen hc is fun j hj => h j (List.mem_cons_of_mem _ hj)]
theorem from_app {ys:List Ow3} {js:List Nat} (hj:ownersFrom l ts js = .ok ys):∀ {is:List Nat} {xs:List Ow3},ownersFrom l ts is = .ok xs → ownersFrom l ts (is ++ js) = .ok (xs ++ ys)
 | [],xs,h => by cases h; exact hj
 | i :: is,xs,h => by
  rw [List.cons_append,ownersFrom]
  rw [ownersFrom] at h
  split at h
  ·rename_i hk
   rw [if_pos hk]
   cases ho:owner l ts i with
   | error e => rw [ho] at h; cases h
   | ok o =>
    rw [ho] at h
    dsimp only at h ⊢
    cases hr:ownersFrom l ts is with
    | error e => rw [hr] at h; cases h
    | ok zs => rw [hr] at h; cases h; rw [from_app hj hr]; rfl
  ·rename_i hk
   rw [if_neg hk]
   exact from_app hj h
end
theorem owners_more {l:List Df} {os:List Ow3} (name:ByteArray) (h:owners l = .ok os):(∃ e,owners (l ++ [bx name]) = .error e ∧ (e.1 = 7 ∨ e.1 = 5 ∨ e.1 = 4)) ∨ owners (l ++ [bx name]) = .ok (os ++ [(name,⟨#[]⟩,⟨#[]⟩)]):=by
 obtain ⟨hw,hp,us,ts,hh,hb,ho⟩:=owners_open h
 by_cases h0:(wrongL (l ++ [bx name])).1 = 0
 ·rcases prog_more (b:=bx name) hp with ⟨e,hpe,he⟩ | ⟨hpn,hnd⟩
  ·refine .inl ⟨e,?_,.inl he⟩
   rw [owners_eq,if_neg (by simpa using h0)]
   unfold owners2
   rw [hpe]
  ·have hu:=up_more hnd
   have hF:=fit_of hw hh
   obtain ⟨hlen,htl⟩:=talks_ok hF hb
   have hc:∀ n,n < ts.length → ∀ c ∈ (tkAt ts n).calls,c < ts.length:=fun n hn c hcm => by
    rw [hlen]
    exact (htl n (by omega)).2.2.2 c hcm
   have hs:∀ n,n < ts.length → (∀ c ∈ (tkAt ts n).sends,c < l.length) ∧ ∀ c ∈ (tkAt ts n).recvs,c < l.length:=fun n hn => by
    obtain ⟨_,hat⟩:=each_at hb
    obtain ⟨t,ht,hbt⟩:=hat n l[n] (List.getElem?_eq_getElem (by omega))
    have e:tkAt ts n = t:=by simp [tkAt,ht]
    rw [e]
    exact bodyT_gd l l[n] t hbt
   have hh2:=each_snoc (b:=bx name) (f:=head (l ++ [bx name])) (x:=()) (by simp [head,bx,plain]) (each_up (fun d => head_up hu d) hh)
   have hb2:=each_snoc (b:=bx name) (f:=bodyT (l ++ [bx name])) (x:=Tk.none) (by simp [bodyT,bx]) (each_up (fun d => bodyT_up hu d) hb)
   refine .inr (owners_mk h0 hpn hh2 hb2 ?_)
   obtain ⟨ht1,ht2⟩:=tasks_more (b:=bx name) (x:=Tk.none) rfl hlen hc
   have hr:∀ t,t < ts.length → (∀ c ∈ (reached ts t).sends,c < l.length) ∧ ∀ c ∈ (reached ts t).recvs,c < l.length:=fun t ht => reached_lt hs hc ht
   have hno:∀ t,t < l.length → l.length ∉ (tasksT l ts t).sends ∧ l.length ∉ (tasksT l ts t).recvs:=fun t ht => by
    unfold tasksT
    split
    ·obtain ⟨r1,r2⟩:=hr t (by omega)
     exact ⟨fun hm => by have:=r1 _ hm; omega,fun hm => by have:=r2 _ hm; omega⟩
    ·simp [Tk.none]
   have hall:∀ t,t < (l ++ [bx name]).length → l.length ∉ (tasksT (l ++ [bx name]) (ts ++ [Tk.none]) t).sends ∧ l.length ∉ (tasksT (l ++ [bx name]) (ts ++ [Tk.none]) t).recvs:=fun t ht => by
    rw [List.length_append,List.length_singleton] at ht
    rcases Nat.lt_or_ge t l.length with h1 | h1
    ·rw [ht1 t h1]; exact hno t h1
    ·rw [show t = l.length by omega,ht2]; simp [Tk.none]
   rw [List.length_append,List.length_singleton,List.range_succ]
   refine from_app (xs:=os) ?_ ((from_more rfl hlen hc _ (fun i hi => List.mem_range.1 hi)).trans ho)
   rw [ownersFrom,at_new,if_pos (show (bx name).kind = 1 from rfl)]
   have how:owner (l ++ [bx name]) (ts ++ [Tk.none]) l.length = .ok (name,⟨#[]⟩,⟨#[]⟩):=by
    unfold owner
    rw [only_none fun t ht => by simpa using (hall t ht).1,only_none fun t ht => by simpa using (hall t ht).2,at_new]
    rfl
   rw [how]
   rfl
 ·refine .inl ⟨wrongL (l ++ [bx name]),by rw [owners_eq,if_pos h0],?_⟩
  rcases wrong_more (name:=name) hw with h1 | h1 | h1 | h1
  ·exact absurd h1 h0
  ·exact .inr (.inl h1)
  ·exact .inr (.inr h1)
  ·exact .inl h1
end Sm
theorem Tryz.infodefx:(Tryz.prog.info? 35).map (fun i => (i.zero,i.size,i.bytes)) = some (some (.agg #[.int .i64 0,.string ⟨#[]⟩,.int .i64 0,.string ⟨#[]⟩,.int .i64 0,.string ⟨#[]⟩,.int .i64 0,.slice none 0 0,.slice none 0 0]),9,128):=by kernel_rfl
section
variable {P:Program} {w:World}
theorem jn_append_nothing (base:Nat) (t ty e:TypeId) (i:TypeInfo) (size:Nat) (ht:P.underlying t = some (.slice e)) (hi:P.info? e = some i) (v:Value) (n:Nat) (xs:List Value) (hown:w.ownsRow base e size v n xs) (c:Nat) :
  (Builtin.append_ #[t,t] ty #[v,.slice none 0 c]).run P w = .ok v w:=by
 rcases hown.2 with ⟨rfl,rfl⟩ | ⟨g,cap,cur,rfl,_,_,hnc,_⟩
 ·simp [Builtin.append_,run_underlying ht,sizeOf,typeInfo,hi,Builtin.lenOf,Builtin.firstCells]
 ·simp [Builtin.append_,run_underlying ht,sizeOf,typeInfo,hi,Builtin.lenOf,Builtin.firstCells,hnc,storeCells]
theorem jn_append_src {ops:Array Oper} {rest:List Oper} {o:Oper} {a:Act} {Q:Exit → Act → World → Prop} (hgd:o.guard = none) (s x:Operand) (t:TypeId)
  (ho:o.op = .call { callee:=.builtin .append,args:=#[s,x],argTypes:=#[t,t] })
  (base:Nat) (e:TypeId) (i:TypeInfo) (z:Value) (size bytes:Nat) (ht:P.underlying t = some (.slice e)) (hi:P.info? e = some i) (hz:i.zero = some z)
  (hsize:i.size = size) (hby:i.bytes = bytes) (hzs:z.cells.size = size) (hsz:0 < size)
  (v:Value) (n:Nat) (xs:List Value) (hs:a.eval s = v) (hown:w.ownsRow base e size v n xs)
  (ao:Option Addr) (m c:Nat) (news:List Value) (hx:a.eval x = .slice ao m c) (hno:ao = none → m = 0) (hl:news.length = m * size) (hnews:∀ ad,ao = some ad → ∀ j u,news[j]? = some u → w.cell? (ad.add j) = some u) (h1:∀ u ∈ news,u.oneCell' = true)
  (h63:n + m ≤ maxLen) (hbytes:(n + m) * bytes ≤ 140737488355328) (hbase:base ≤ w.heap.size)
  (h:∀ v' w',w'.ownsRow base e size v' (n + m) (xs ++ news) → w.grownBy w' v.ownBlock → wpList P ops Q rest (a.put o.dst v') w'):wpList P ops Q (o :: rest) a w:=by
 cases ao with
 | none =>
  obtain rfl:=hno rfl
  obtain rfl:news = []:=List.eq_nil_of_length_eq_zero (by simpa using hl)
  refine wpList_plain hgd fun K hK => ?_
  have hrun:=jn_append_nothing (P:=P) (w:=w) base t o.type e i size ht hi v n xs hown c
  unfold Oper.wp
  simp [execOp,ho,resolve,invoke,builtin,hs,hx,hrun,Result.andThen]
  exact hK _ _ (h v w (by simpa using hown) (World.grownBy.refl _ _))
 | some ad => exact wpList_append_own w hgd s x t ho base e i z size bytes ht hi hz hsize hby hzs hsz v n xs hs hown ad m c news hx hl (hnews ad rfl) h1 h63 hbytes hbase (fun v' w' h2 h3 _ => h v' w' h2 h3)
theorem jn_block {w:World} {C:Nat} {e:TypeId} {size n:Nat} {v:Value} {xs:List Value} (h:w.ownsRow C e size v n xs):∀ j,v.ownBlock = some j → C ≤ j ∧ j < w.heap.size:=by
 intro j hj
 rcases h.2 with ⟨rfl,_⟩ | ⟨g,cap,cur,rfl,h2,h3,h4⟩
 ·cases hj
 ·cases hj
  exact ⟨h2,lt_of_block h3⟩
theorem jn_row {w:World} {C:Nat} {e:TypeId} {size n:Nat} {v:Value} {xs:List Value} (h:w.ownsRow C e size v n xs):∃ ao cap,v = .slice ao n cap ∧ (ao = none → n = 0) ∧ ∀ ad,ao = some ad → ∃ g,∃ cur:List Value,ad = ⟨g,0,none⟩ ∧ C ≤ g ∧ w.heap[g]? = some (.cells (List.toArray cur) e (0,0)) ∧ cur.take (n * size) = xs:=by
 rcases h.2 with ⟨rfl,h0⟩ | ⟨g,cap,cur,rfl,hg,hh,h1,h2,h3,h4⟩
 ·subst h0
  exact ⟨none,0,rfl,fun _ => rfl,(fun ad e => by cases e)⟩
 ·exact ⟨_,cap,rfl,(fun e => by cases e),(fun ad e => by cases e; exact ⟨g,cur.toList,rfl,hg,hh,h4⟩)⟩
end
theorem jn_len {α:Type} (f:α → List Value) (k:Nat) (hf:∀ x,(f x).length = k) (l:List α):(l.flatMap f).length = l.length * k:=by
 induction l with
 | nil => simp
 | cons x l ih => rw [List.flatMap_cons,List.length_append,ih,hf,List.length_cons,Nat.succ_mul]; omega
theorem jn_at {α:Type} (f:α → List Value) (k:Nat) (hf:∀ x,(f x).length = k):∀ (l:List α) (i:Nat) (x:α),l[i]? = some x → ∀ j,j < k → (l.flatMap f)[i * k + j]? = (f x)[j]?
 | y :: l,0,x,h,j,hj => by
  simp at h
  subst h
  rw [List.flatMap_cons,List.getElem?_append_left (by rw [hf]; omega)]
  simp
 | y :: l,i + 1,x,h,j,hj => by
  have:=jn_at f k hf l i x (by simpa using h) j hj
  rw [List.flatMap_cons,Nat.succ_mul,List.getElem?_append_right (by rw [hf]; omega),← this]
  congr 1
  rw [hf]
  omega
theorem jn_mem {α:Type} (f:α → List Value) (k:Nat) (h0:0 < k) (hf:∀ x,(f x).length = k) {l:List α} {j:Nat} {v:Value} (h:(l.flatMap f)[j]? = some v):∃ i j' x,j = i * k + j' ∧ j' < k ∧ l[i]? = some x ∧ (f x)[j']? = some v:=by
 have hlt:=(List.getElem?_eq_some_iff.1 h).1
 rw [jn_len f k hf] at hlt
 have hi:j / k < l.length:=(Nat.div_lt_iff_lt_mul h0).2 hlt
 have hm:=Nat.mod_lt j h0
 have hx:=List.getElem?_eq_getElem hi
 have e:j = j / k * k + j % k:=by rw [Nat.mul_comm]; exact (Nat.div_add_mod j k).symm
 refine ⟨j / k,j % k,l[j / k],e,hm,hx,?_⟩
 rw [← jn_at f k hf l _ _ hx _ hm,← e]
 exact h
theorem jn_add {b off j:Nat}:(⟨b,off,none⟩:Addr).add j = ⟨b,off + j,none⟩:=by
 unfold Addr.add
 split
 ·rename_i h0
  have h1:j = 0:=h0
  rw [h1]
  rfl
 ·rfl
theorem jn_cell {α:Type} {f:α → List Value} {k:Nat} {w:World} {g:Nat} {t:TypeId} {cur:List Value} {l:List α} (hf:∀ x,(f x).length = k) (hb:w.heap[g]? = some (.cells (List.toArray cur) t (0,0))) (ht:cur.take (l.length * k) = l.flatMap f) {i:Nat} {x:α} (hx:l[i]? = some x) {j:Nat} (hj:j < k):w.cell? ⟨g,0 + i * k + j,none⟩ = (f x)[j]?:=by
 have hi:=(List.getElem?_eq_some_iff.1 hx).1
 have hle:i * k + j < l.length * k:=by
  have:(i + 1) * k ≤ l.length * k:=Nat.mul_le_mul_right k hi
  rw [Nat.succ_mul] at this
  omega
 rw [← jn_at f k hf l i x hx j hj,← ht,List.getElem?_take,if_pos hle]
 simp [World.cell?,hb]
structure DV where
 d:Sy.Df
 pa:Option Addr
 pc:Nat
 ba:Option Addr
 bc:Nat
abbrev dvC (x:DV):List Value:=[.int .i64 x.d.kind,.string x.d.name,.int .i64 x.d.ty.kind,.string x.d.ty.gen,.int .i64 x.d.takes.kind,.string x.d.takes.gen,.int .i64 x.d.cap,.slice x.pa x.d.params.length x.pc,.slice x.ba x.d.body.length x.bc]
structure DvsIn (B:Nat) (w:World) (vs:List DV) (a:Option Addr):Prop where
 cells:∀ ad,a = some ad → ∀ j v,(vs.flatMap dvC)[j]? = some v → w.cell? (ad.add j) = some v
 none:a = none → vs = []
 rows:∀ x ∈ vs,DfIn B w x.d x.pa x.ba
theorem dvs_of {B:Nat} {w:World} {l:List Sy.Df} {a:Option Addr} (h:DfsIn B w l a):∃ vs:List DV,vs.map DV.d = l ∧ DvsIn B w vs a:=by
 have key:∀ i:Nat,∃ x:DV,∀ d,l[i]? = some d → x.d = d ∧ (∃ b off,a = some ⟨b,off,none⟩ ∧ ∀ j v,(dvC x)[j]? = some v → w.cell? ⟨b,off + i * 9 + j,none⟩ = some v) ∧ DfIn B w x.d x.pa x.ba:=by
  intro i
  cases hd:l[i]? with
  | none => exact ⟨⟨⟨0,⟨#[]⟩,⟨0,⟨#[]⟩⟩,⟨0,⟨#[]⟩⟩,0,[],[]⟩,.none,0,.none,0⟩,fun d e => by cases e⟩
  | some d =>
   obtain ⟨b,off,pa,pc,ba,bc,ha,hb,c0,c1,c2,c3,c4,c5,c6,c7,c8,hin⟩:=h.2 i d hd
   refine ⟨⟨d,pa,pc,ba,bc⟩,fun d' e => ?_⟩
   cases e
   refine ⟨rfl,⟨b,off,ha,fun j v hv => ?_⟩,hin⟩
   have hj:=(List.getElem?_eq_some_iff.1 hv).1
   simp only [List.length_cons,List.length_nil] at hj
   rcases (by omega:j = 0 ∨ j = 1 ∨ j = 2 ∨ j = 3 ∨ j = 4 ∨ j = 5 ∨ j = 6 ∨ j = 7 ∨ j = 8) with rfl | rfl | rfl | rfl | rfl | rfl | rfl | rfl | rfl
   ·rw [← hv]; exact c0
   ·rw [← hv]; exact c1
   ·rw [← hv]; exact c2
   ·rw [← hv]; exact c3
   ·rw [← hv]; exact c4
   ·rw [← hv]; exact c5
   ·rw [← hv]; exact c6
   ·rw [← hv]; exact c7
   ·rw [← hv]; exact c8
 obtain ⟨f,hf⟩:=Classical.axiomOfChoice key
 have hat:∀ i x,((List.range l.length).map f)[i]? = some x → i < l.length ∧ x = f i:=by
  intro i x hx
  rw [List.getElem?_map] at hx
  have hi:i < l.length:=by
   by_cases hi:i < l.length
   ·exact hi
   ·rw [List.getElem?_eq_none (by simp; omega)] at hx; simp at hx
  rw [List.getElem?_range hi] at hx
  simp at hx
  exact ⟨hi,hx.symm⟩
 refine ⟨(List.range l.length).map f,?_,⟨fun ad ha j v hv => ?_,fun ha => ?_,fun x hx => ?_⟩⟩
 ·apply List.ext_getElem?
  intro i
  rw [List.map_map,List.getElem?_map]
  by_cases hi:i < l.length
  ·rw [List.getElem?_range hi]
   obtain ⟨d,hd⟩:∃ d,l[i]? = some d:=⟨_,List.getElem?_eq_getElem hi⟩
   rw [hd]
   simp only [Option.map_some,Function.comp]
   rw [(hf i d hd).1]
  ·rw [List.getElem?_eq_none (by simp; omega),List.getElem?_eq_none (by omega)]
   rfl
 ·obtain ⟨i,j',x,rfl,hj,hx,hv'⟩:=jn_mem dvC 9 (by decide) (fun _ => rfl) hv
  obtain ⟨hi,rfl⟩:=hat i x hx
  obtain ⟨d,hd⟩:∃ d,l[i]? = some d:=⟨_,List.getElem?_eq_getElem hi⟩
  obtain ⟨_,⟨b,off,e,hc⟩,_⟩:=hf i d hd
  rw [ha] at e
  cases e
  rw [jn_add,← Nat.add_assoc]
  exact hc j' v hv'
 ·cases l with
  | nil => rfl
  | cons d l =>
   obtain ⟨_,⟨b,off,e,hc⟩,_⟩:=hf 0 d rfl
   rw [ha] at e
   cases e
 ·obtain ⟨i,hi,rfl⟩:=List.mem_map.1 hx
  have hi':=List.mem_range.1 hi
  obtain ⟨d,hd⟩:∃ d,l[i]? = some d:=⟨_,List.getElem?_eq_getElem hi'⟩
  exact (hf i d hd).2.2
theorem dvs_one (vs:List DV):∀ v ∈ vs.flatMap dvC,v.oneCell' = true:=by
 intro v hv
 obtain ⟨x,_,hx⟩:=List.mem_flatMap.1 hv
 simp at hx
 rcases hx with rfl | rfl | rfl | rfl | rfl | rfl | rfl | rfl | rfl <;> rfl
theorem defs_row {B:Nat} {w:World} {vs:List DV} {ao:Option Addr} (hn:vs.length ≤ maxLen) (hno:ao = none → vs.length = 0) (hr:∀ ad,ao = some ad → ∃ g,∃ cur:List Value,ad = ⟨g,0,none⟩ ∧ g < B ∧ w.heap[g]? = some (.cells (List.toArray cur) 35 (0,0)) ∧ cur.take (vs.length * 9) = vs.flatMap dvC) (hd:∀ x ∈ vs,DfIn B w x.d x.pa x.ba):DfsIn B w (vs.map DV.d) ao:=by
 refine ⟨by simpa using hn,fun i d hi => ?_⟩
 rw [List.getElem?_map] at hi
 cases hx:vs[i]? with
 | none => rw [hx] at hi; simp at hi
 | some x =>
  rw [hx] at hi
  simp at hi
  subst hi
  cases ao with
  | none =>
   have:=hno rfl
   have:=(List.getElem?_eq_some_iff.1 hx).1
   omega
  | some ad =>
   obtain ⟨g,cur,rfl,hg,hb,ht⟩:=hr ad rfl
   have c:∀ j,j < 9 → _:=fun j hj => jn_cell (f:=dvC) (k:=9) (fun _ => rfl) hb ht hx hj
   exact ⟨g,0,x.pa,x.pc,x.ba,x.bc,rfl,hg,c 0 (by decide),c 1 (by decide),c 2 (by decide),c 3 (by decide),c 4 (by decide),c 5 (by decide),c 6 (by decide),c 7 (by decide),c 8 (by decide),hd x (List.mem_of_getElem? hx)⟩
end Go.Proofs.YtpnljpdpobbiiaaGreatDoor
