/- A name is let: the map and the row of names grow. -/
import Derived.Test.YtbioaoangfiijaaGreatDoorM5
import Derived.OwnWalk
import Derived.Deep.RegionHeld3
set_option maxRecDepth 100000
set_option maxHeartbeats 1000000
namespace Go.Proofs.YtbioaoangfiijaaGreatDoor
open Go.RowKit
namespace Sm
theorem run_append_where {P:Program} (w:World) (base:Nat) (t ty e:TypeId) (i:TypeInfo) (z:Value) (size bytes:Nat) (ht:P.underlying t = some (.slice e)) (hi:P.info? e = some i) (hz:i.zero = some z)
  (hsize:i.size = size) (hby:i.bytes = bytes) (hzs:z.cells.size = size) (hsz:0 < size)
  (v:Value) (n:Nat) (xs:List Value) (hown:w.ownsRow base e size v n xs)
  (a:Addr) (m c:Nat) (news:List Value) (hl:news.length = m * size) (hnews:∀ j u,news[j]? = some u → w.cell? (a.add j) = some u) (h1:∀ u ∈ news,u.oneCell' = true)
  (h0:0 < m) (h63:n + m ≤ maxLen) (hbytes:(n + m) * bytes ≤ 140737488355328) (hbase:base ≤ w.heap.size) :
  ∃ v' w',(Builtin.append_ #[t,t] ty #[v,.slice (some a) m c]).run P w = .ok v' w' ∧ w'.ownsRow base e size v' (n + m) (xs ++ news) ∧ w.grownBy w' v.ownBlock ∧
   ∃ g cap,v' = .slice (some ⟨g,0,none⟩) (n + m) cap ∧ (v.ownBlock = some g ∨ g = w.heap.size):=by
 obtain ⟨v',w',hr,h2,h3,_⟩:=run_append_own (P:=P) w base t ty e i z size bytes ht hi hz hsize hby hzs hsz v n xs hown a m c news hl hnews h1 h63 hbytes hbase
 refine ⟨v',w',hr,h2,h3,?_⟩
 have hsmall:n + m ≤ 9223372036854775807:=by simp only [maxLen] at h63; omega
 subst hsize
 subst hby
 rcases hown.2 with ⟨rfl,rfl⟩ | ⟨g,cap,cur,rfl,hbg,hg,hnc,hcm,hcs,htake⟩
 ·have hq:=run_append_nil (P:=P) w t ty e i z ht hi hz a m c news hl hnews h0 (by omega) (by have hb:=hbytes; simp only [Nat.zero_add] at hb; omega)
  rw [hr] at hq
  injection hq with e1 e2
  exact ⟨w.heap.size,_,by rw [e1,Nat.zero_add],.inr rfl⟩
 ·by_cases hroom:n + m ≤ cap
  ·have hfit:n * i.size + news.length ≤ cur.size:=by rw [hl,hcs,← Nat.add_mul]; exact Nat.mul_le_mul_right _ hroom
   have hq:=run_append_room (P:=P) w t ty e i ht hi g n cap cur hg a m c news hl hnews h1 hroom hfit
   rw [hr] at hq
   injection hq with e1 e2
   exact ⟨g,cap,e1,.inl rfl⟩
  ·have hq:=run_append_grow (P:=P) w t ty e i z ht hi hz ⟨g,0,none⟩ n cap xs hown.1 (hown.cells (g:=g) rfl) a m c news hl hnews (by omega) (by omega) (growslice_fits (by omega) hbytes)
   rw [hr] at hq
   injection hq with e1 e2
   exact ⟨w.heap.size,_,e1,.inr rfl⟩
theorem wpList_append_where {P:Program} {w:World} {ops:Array Oper} {rest:List Oper} {o:Oper} {a:Act} {Q:Exit → Act → World → Prop} (hgd:o.guard = none) (s x:Operand) (t:TypeId)
  (ho:o.op = .call { callee:=.builtin .append,args:=#[s,x],argTypes:=#[t,t] })
  (base:Nat) (e:TypeId) (i:TypeInfo) (z:Value) (size bytes:Nat) (ht:P.underlying t = some (.slice e)) (hi:P.info? e = some i) (hz:i.zero = some z)
  (hsize:i.size = size) (hby:i.bytes = bytes) (hzs:z.cells.size = size) (hsz:0 < size)
  (v:Value) (n:Nat) (xs:List Value) (hs:a.eval s = v) (hown:w.ownsRow base e size v n xs)
  (ad:Addr) (m c:Nat) (news:List Value) (hx:a.eval x = .slice (some ad) m c) (hl:news.length = m * size) (hnews:∀ j u,news[j]? = some u → w.cell? (ad.add j) = some u) (h1:∀ u ∈ news,u.oneCell' = true)
  (h0:0 < m) (h63:n + m ≤ maxLen) (hbytes:(n + m) * bytes ≤ 140737488355328) (hbase:base ≤ w.heap.size)
  (h:∀ g cap w',w'.ownsRow base e size (.slice (some ⟨g,0,none⟩) (n + m) cap) (n + m) (xs ++ news) → w.grownBy w' v.ownBlock → (v.ownBlock = some g ∨ g = w.heap.size) → wpList P ops Q rest (a.put o.dst (.slice (some ⟨g,0,none⟩) (n + m) cap)) w'):wpList P ops Q (o :: rest) a w:=by
 refine wpList_plain hgd fun K hK => ?_
 obtain ⟨v',w',hr,h2,h3,g,cap,rfl,h4⟩:=run_append_where (P:=P) w base t o.type e i z size bytes ht hi hz hsize hby hzs hsz v n xs hown ad m c news hl hnews h1 h0 h63 hbytes hbase
 unfold Oper.wp
 simp [execOp,ho,resolve,invoke,builtin,hs,hx,hr,Result.andThen]
 exact hK _ _ (h g cap w' h2 h3 h4)
theorem Tryz.info9:(Tryz.prog.info? 9).map (fun i => (i.zero,i.size,i.bytes)) = some (some (.string ⟨#[]⟩),1,16):=by kernel_rfl
theorem info_parts {P:Program} {e:TypeId} {z:Value} {s b:Nat} (h:(P.info? e).map (fun i => (i.zero,i.size,i.bytes)) = some (some z,s,b)):∃ i,P.info? e = some i ∧ i.zero = some z ∧ i.size = s ∧ i.bytes = b:=by
 cases hi:P.info? e with
 | none => rw [hi] at h; cases h
 | some i =>
  rw [hi] at h
  simp only [Option.map_some,Option.some.injEq,Prod.mk.injEq] at h
  exact ⟨i,rfl,h.1,h.2.1,h.2.2⟩
theorem one_news (W:World) (u:Value) (t:TypeId):∀ j u',[u][j]? = some u' → (W.alloc (.cells #[u] t)).cell? ((⟨W.heap.size,0,none⟩:Addr).add j) = some u'
 | 0,u',h => by simp at h; subst h; simp [Addr.add]
 | j + 1,u',h => by simp at h
theorem one_str (x:ByteArray):∀ u ∈ [Value.string x],u.oneCell' = true:=by intro u hu; simp at hu; subst hu; rfl
theorem obj_inj {K:BK} {o s r c o' s' r' c':Value} (h:K.obj o s r c = K.obj o' s' r' c'):o = o' ∧ s = s' ∧ r = r' ∧ c = c':=by
 simp only [BK.obj,bdO,Obj.cells.injEq,Array.mk.injEq,List.cons.injEq] at h
 obtain ⟨⟨-,-,-,-,h1,h2,h3,h4,-⟩,-⟩:=h
 exact ⟨h1,h2,h3,h4⟩
theorem obj_set4 {K:BK} {w:World} {o s r c:Value} (h:w.heap[K.F]? = some (K.obj o s r c)) (v:Value):(w.setCell ⟨K.F,4,none⟩ v).heap[K.F]? = some (K.obj v s r c):=by
 simp only [World.setCell,Array.getElem?_modify,if_true,h,Option.map_some]
 rfl
theorem In.block {w:World} {M:Nat} {l:Ms.Row} (h:Ms.In w M l):∃ es cl,w.heap[M]? = some (.map es cl):=by
 obtain ⟨es,cl,h1,_⟩:=h
 exact ⟨es,cl,h1⟩
theorem In.far {w:World} {M k:Nat} {l:Ms.Row} {cs:Array Value} {t:TypeId} {fr:Nat × Nat} (h:Ms.In w M l) (hk:w.heap[k]? = some (.cells cs t fr)):k ≠ M:=fun e => by
 obtain ⟨es,cl,h1⟩:=In.block h
 rw [e,h1] at hk
 cases hk
theorem let_end {K:BK} {v:Vars} {t:Tk} {name:ByteArray} {ty:Sy.Ty} {w w2 w4:World} {ob o2:Obj} {ord sn rc cl:Value} {g cap:Nat} (h:BW K w v t) (h4:Rows4 K w v t ord sn rc cl) (hl:Sm.look v name = none)
  (hg2:(w.alloc ob).drew.grownBy w2 (some K.T)) (hT:Ms.In w2 K.T (vrow v ++ [(name,tyV ty)])) (hg4:(w2.alloc o2).grownBy w4 ord.ownBlock)
  (hown:w4.ownsRow K.B 9 1 (.slice (some ⟨g,0,none⟩) (v.length + 1) cap) (v.length + 1) (strs v ++ [.string name])) (hw:ord.ownBlock = some g ∨ g = (w2.alloc o2).heap.size) :
  BW K (w4.setCell ⟨K.F,4,none⟩ (.slice (some ⟨g,0,none⟩) (v.length + 1) cap)) (v ++ [(name,ty)]) t ∧ Kpt K w (w4.setCell ⟨K.F,4,none⟩ (.slice (some ⟨g,0,none⟩) (v.length + 1) cap)):=by
 obtain ⟨nv,hnv⟩:∃ nv,nv = Value.slice (some ⟨g,0,none⟩) (v.length + 1) cap:=⟨_,rfl⟩
 have hno:nv.ownBlock = some g:=by rw [hnv]; rfl
 rw [← hnv] at hown ⊢
 have hz2:w.heap.size + 1 ≤ w2.heap.size:=by simpa [World.drew] using hg2.size
 have hz4:w2.heap.size + 1 ≤ w4.heap.size:=by simpa using hg4.size
 have hFT:=In.far h.vars h4.blk
 have hoF:ord.ownBlock ≠ some K.F:=fun e => by
  obtain ⟨_,_,cur,hc⟩:=own_lt h4.ordO _ e
  rw [h4.blk] at hc
  cases hc
 have blk:∀ k,k < w.heap.size → k ≠ K.T → ord.ownBlock ≠ some k → w4.heap[k]? = w.heap[k]?:=fun k hk h1 h2 =>
  ((hg4.block k (by simp; omega) (fun e => h2 e.symm)).trans (Below.heap_alloc _ _ _ (by omega))).trans ((hg2.block k (by show k < (w.alloc ob).heap.size; simp; omega) (fun e => h1 (by simpa using e))).trans (Below.heap_alloc _ _ _ hk))
 have hF4:w4.heap[K.F]? = some (K.obj ord sn rc cl):=(blk _ h4.lt hFT hoF).trans h4.blk
 have hF5:=obj_set4 hF4 nv
 have set:∀ k,k ≠ K.F → (w4.setCell ⟨K.F,4,none⟩ nv).heap[k]? = w4.heap[k]?:=fun k hk => Below.heap_setCell w4 ⟨K.F,4,none⟩ nv k hk
 have all:∀ k,k < w.heap.size → k ≠ K.F → k ≠ K.T → ord.ownBlock ≠ some k → (w4.setCell ⟨K.F,4,none⟩ nv).heap[k]? = w.heap[k]?:=fun k hk h1 h2 h3 => (set k h1).trans (blk k hk h2 h3)
 have ints:∀ {x:Value} {n:Nat} {xs:List Value},w.ownsRow K.B 3 1 x n xs → (w4.setCell ⟨K.F,4,none⟩ nv).ownsRow K.B 3 1 x n xs:=fun {x n xs} ho => own_keep ho fun k hk => by
  obtain ⟨_,hlt,cur,hc⟩:=own_lt ho k hk
  refine all k hlt (fun e => ?_) (In.far h.vars hc) (fun e => ?_)
  ·rw [e,h4.blk] at hc
   cases hc
  ·obtain ⟨_,_,cur',hc'⟩:=own_lt h4.ordO k e
   rw [hc'] at hc
   cases hc
 have mapFar:∀ {M:Nat} {R:Ms.Row},Ms.In w M R → M ≠ K.F ∧ ord.ownBlock ≠ some M:=fun {M R} hm => ⟨fun e => (In.far hm h4.blk) e.symm,fun e => by
  obtain ⟨_,_,cur',hc'⟩:=own_lt h4.ordO _ e
  exact (In.far hm hc') rfl⟩
 refine ⟨⟨?_,h.base,?_,h.nums,⟨nv,sn,rc,cl,hF5,?_,ints h4.snO,ints h4.rcO,ints h4.clO,h4.far⟩,?_,?_⟩,⟨hg4.os.trans hg2.os,hg4.tape.trans hg2.tape,hg4.output.trans hg2.output,?_,fun k hk hf => ?_⟩⟩
 ·refine h.grd.same fun b o hb => World.cell?_of_block (a:=⟨b,o,none⟩) ?_
  have hbase:=h.base
  have:=h4.lt
  exact all b (by omega) (by omega) (by omega) (fun e => by have:=(own_lt h4.ordO b e).1; omega)
 ·exact h.mp.keep (all _ h.mp.lt (mapFar h.mp).1 h.base.2.2.2 (mapFar h.mp).2)
 ·have e1:(v ++ [(name,ty)]).length = v.length + 1:=by simp
  have e2:strs (v ++ [(name,ty)]) = strs v ++ [.string name]:=by simp
  rw [e1,e2]
  exact own_keep hown fun k hk => set k (fun e => by
   obtain ⟨_,_,cur',hc'⟩:=own_lt hown k hk
   rw [e,hF4] at hc'
   cases hc')
 ·have e1:vrow (v ++ [(name,ty)]) = vrow v ++ [(name,tyV ty)]:=by simp
  rw [e1]
  refine hT.keep ((set _ (fun e => hFT e.symm)).trans ((hg4.block _ (by have:=hT.lt; simp; omega) (fun e => (mapFar h.vars).2 e.symm)).trans (Below.heap_alloc _ _ _ hT.lt)))
 ·rw [List.map_append,List.nodup_append]
  refine ⟨h.once,by simp,fun a ha b hb => ?_⟩
  simp at hb
  subst hb
  intro e
  subst e
  obtain ⟨p,hp,hpa⟩:=List.mem_map.1 ha
  have:(v.find? (fun p => decide (p.1 = a))) = none:=by
   unfold Sm.look at hl
   cases hf:v.find? (fun p => decide (p.1 = a)) with
   | none => rfl
   | some x => rw [hf] at hl; cases hl
  rw [List.find?_eq_none] at this
  exact this p hp (by simp [hpa])
 ·simp [World.setCell]; omega
 ·obtain ⟨f1,f2,f3⟩:=hf
  obtain ⟨f4,f5,f6,f7⟩:=f3 _ _ _ _ h4.blk
  refine ⟨all k hk f1 f2 f4,f1,f2,fun o s r c ho => ?_⟩
  rw [hF5] at ho
  obtain ⟨rfl,rfl,rfl,rfl⟩:=obj_inj (Option.some.inj ho)
  refine ⟨?_,f5,f6,f7⟩
  rw [hno]
  intro e
  cases e
  rcases hw with hw | hw
  ·exact f4 hw
  ·simp at hw; omega
theorem let_any (K:BK) (v:Vars) (t:Tk) (name:ByteArray) (ty:Sy.Ty) (w:World) (h:Hid (BW K w v t)) (hl:Hid (Sm.look v name = none)) (hn:v.length ≤ 100000) :
  Calls Tryz.prog 68 #[.pointer (some ⟨K.F,3,none⟩),.string name,tyV ty] w fun e w' => e = .returned (.tuple #[]) ∧ BW K w' (v ++ [(name,ty)]) t ∧ Kpt K w w':=by
 obtain ⟨ord,sn,rc,cl,h4⟩:=h.out.rows
 have hF:=h4.lt
 have hBw:K.B ≤ w.heap.size:=by have:=h.out.base; omega
 obtain ⟨tk,tg⟩:=ty
 obtain ⟨w2,hup,hT,hg2⟩:=Ms.run_add Tryz.underlying101 Tryz.underlying9 (w:=(w.alloc (.cells #[.int .i64 tk,.string tg] 35)).drew) (k:=name) (v:=tyV ⟨tk,tg⟩) (h.out.vars.grow (w':=(w.alloc (.cells #[.int .i64 tk,.string tg] 35)).drew) (by have:=grown_a (w:=w) (.cells #[.int .i64 tk,.string tg] 35); exact ⟨this.os,this.tape,this.output,this.size,this.block⟩)) (by rw [val_look,hl.out]; rfl)
 obtain ⟨i0,hi,hz0,hz1,hz2⟩:=info_parts Tryz.info9
 have hz2':w.heap.size + 1 ≤ w2.heap.size:=by simpa [World.drew] using hg2.size
 have hFT:K.F ≠ K.T:=In.far h.out.vars h4.blk
 have hF0:(w.alloc (.cells #[.int .i64 tk,.string tg] 35)).heap[K.F]? = some (K.obj ord sn rc cl):=(Below.heap_alloc _ _ _ hF).trans h4.blk
 have hF2:w2.heap[K.F]? = some (K.obj ord sn rc cl):=(hg2.block _ (by show K.F < (w.alloc _).heap.size; simp; omega) (by simpa using hFT)).trans hF0
 obtain ⟨_,_,_,c3,_⟩:=bd_cells hF0
 obtain ⟨_,_,_,_,d4,_⟩:=bd_cells hF2
 have ho2:Hid (w2.ownsRow K.B 9 1 ord v.length (strs v)):=own_keep h4.ordO fun k hk => by
  obtain ⟨_,hlt,cur,hc⟩:=own_lt h4.ordO k hk
  exact (hg2.block k (by show k < (w.alloc _).heap.size; simp; omega) (by simpa using In.far h.out.vars hc)).trans (Below.heap_alloc _ _ _ hlt)
 have hoF:Hid (ord.ownBlock ≠ some K.F):=fun e => by
  obtain ⟨_,_,cur,hc⟩:=own_lt h4.ordO _ e
  rw [h4.blk] at hc
  cases hc
 have H4:Hid (Rows4 K w v t ord sn rc cl):=h4
 have HT:Hid (Ms.In w2 K.T (vrow v ++ [(name,tyV ⟨tk,tg⟩)])):=hT
 have HG2:Hid ((w.alloc (.cells #[.int .i64 tk,.string tg] 35)).drew.grownBy w2 (some K.T)):=hg2
 have HF2:Hid (w2.heap[K.F]? = some (K.obj ord sn rc cl)):=hF2
 obtain ⟨oa,oc,hord⟩:=own_form h4.ordO
 subst hord
 clear hT hg2 hFT hF0 hF2 h4
 go_enter Tryz.func68,Tryz.ntmps68
 go_wp2
 go_region
 all_goals
  go_wp2_with (at_builtin; refine wpList_append_where rfl _ _ 24 rfl K.B 9 i0 _ 1 16 Tryz.underlying24 hi hz0 hz1 hz2 rfl (by decide) _ v.length (strs v) rfl (ho2.out.alloc _) ⟨w2.heap.size,0,none⟩ 1 1 [.string name] rfl rfl (one_news _ _ _) (one_str _) (by decide) (by unfold maxLen; omega) (by omega) (by simp; omega) ?_; intro g cap w4 hq4 hg4 hw4; have HE:Hid _:=let_end h.out H4.out hl.out HG2.out HT.out hg4 hq4 hw4; have hb4:w4.heap[K.F]? = some (K.obj _ sn rc cl):=((hg4.block K.F (by simp; omega) (fun e => hoF.out e.symm)).trans (Below.heap_alloc _ _ _ (by omega))).trans HF2.out; have b4:=(bd_cells hb4).2.2.2.2.1; have y4:=(bd_frozen hb4).1; clear hq4 hg4 hb4 hw4)
  go_wp2
  go_end0
  exact ⟨rfl,HE.out⟩
end Sm
namespace Sm
theorem tk {P:Program} {ops:Array Oper} {Q:Exit → Act → World → Prop} {md:Region.Mode} {S:World → Prop} (i:Nat) {oi:Oper} {v:Value} {fuel:Nat} {listed:Array Bool} {a:Act} {w:World} (hi:ops[i]? = some oi)
  (h1:∀ w,S w → (execOp a.eval oi).run P w = .ok (.value v) w) (hS:S w) (h:wpAnyH P md ops Q S fuel (listed.setIfInBounds i true) (a.put oi.dst v) w)
  (hs:Region.noSelect ops = true:=by kernel_rfl) (hf:Region.free md ops listed i = true:=by kernel_rfl) (hr:(Region.ready md ops listed).contains i = true:=by kernel_rfl)
  (hw:Region.wanted oi (yielded ops a.tmps) = true:=by rfl) (hQ:∀ c a w,Q (.panic c) (a.put oi.dst v) w → Q (.panic c) a w:=by exact fun _ _ _ h => h):wpAnyH P md ops Q S (fuel + 1) listed a w :=
 wpAnyH_take hi hs hf hr hQ (.inl ⟨hw,h1⟩) hS h
def Bf (K:BK) (w:World) (v:Vars) (r:Except Int (Value × Vars × Tk)) (e:Ending) (w':World):Prop :=
 Kpt K w w' ∧ match r with
 | .ok x => e = .returned x.1 ∧ BW K w' x.2.1 x.2.2
 | .error er => e = .panicked [fltE er K.num] ∧ ∃ v' t',BW K w' v' t' ∧ v <+: v'
theorem grown_drewN {w w':World} (h:w.grownBy w' none) (n:Nat):w.grownBy (w'.drewN n) none:=⟨h.os,h.tape,h.output,h.size,h.block⟩
theorem BW.drewN {K:BK} {w:World} {v:Vars} {t:Tk} (h:BW K w v t) (n:Nat):BW K (w.drewN n) v t:=h.grown (grown_drewN (World.grownBy.refl _ _) n)
theorem Kpt.drewN {K:BK} {w w':World} (h:Kpt K w w') (n:Nat):Kpt K w (w'.drewN n):=⟨h.os,h.tape,h.output,h.size,h.block⟩
theorem Kpt.ofDrewN {K:BK} {w w':World} {n:Nat} (h:Kpt K (w.drewN n) w'):Kpt K w w':=⟨h.os,h.tape,h.output,h.size,h.block⟩
theorem BW.free {K:BK} {w W:World} {v:Vars} {t:Tk} (h:BW K w v t) (hg:w.grownBy W none) {k:Nat} (hk:w.heap.size ≤ k):Free K W k:=by
 obtain ⟨o,s,r,c,h4⟩:=h.rows
 have hF:=h4.lt
 have hT:=h.vars.lt
 refine ⟨by omega,by omega,fun o' s' r' c' hb => ?_⟩
 rw [hg.block _ hF (by simp),h4.blk] at hb
 obtain ⟨rfl,rfl,rfl,rfl⟩:=obj_inj (Option.some.inj hb)
 exact ⟨fun e => by have:=(own_lt h4.ordO k e).2.1; omega,fun e => by have:=(own_lt h4.snO k e).2.1; omega,fun e => by have:=(own_lt h4.rcO k e).2.1; omega,fun e => by have:=(own_lt h4.clO k e).2.1; omega⟩
theorem Bf.bad {K:BK} {w w':World} {v:Vars} {t:Tk} {r:Except Int (Value × Vars × Tk)} {er:Int} (h:BW K w v t) (hg:w.grownBy w' none) (hr:r = .error er):Bf K w v r (.panicked [fltE er K.num]) w':=by
 rw [hr]
 exact ⟨Kpt.grown hg h.lt,rfl,v,t,h.grown hg,List.prefix_refl _⟩
theorem Bf.good {K:BK} {w w':World} {v:Vars} {t:Tk} {r:Except Int (Value × Vars × Tk)} {x:Value} (h:BW K w v t) (hg:w.grownBy w' none) (hr:r = .ok (x,v,t)):Bf K w v r (.returned x) w':=by
 rw [hr]
 exact ⟨Kpt.grown hg h.lt,rfl,h.grown hg⟩
theorem naming_any (K:BK) (v:Vars) (t:Tk) (name:ByteArray) (ty:Sy.Ty) (w:World) (r:Except Int (Value × Vars × Tk)) (h:Hid (BW K w v t)) (hn:v.length ≤ 100000) (hr:Hid (r = if (Sm.look v name).isSome = true then .error 7 else .ok (.tuple #[],v ++ [(name,ty)],t))) :
  Calls Tryz.prog 105 #[.pointer (some ⟨K.F,0,none⟩),.string name,tyV ty] w fun e w' => Bf K w v r e w':=by
 obtain ⟨o,s,rr,cc,h4⟩:=h.out.rows
 have hF:=h4.lt
 obtain ⟨tk,tg⟩:=ty
 have hz:∀ w',(zeroValue 35).run Tryz.prog w' = .ok (tyV ⟨0,⟨#[]⟩⟩) w':=fun w' => by kernel_rfl
 obtain ⟨W,hW⟩:∃ W,W = w.alloc (.cells #[.int .i64 tk,.string tg] 35):=⟨_,rfl⟩
 have hWg:w.grownBy W none:=by rw [hW]; exact grown_a _
 have hWs:W.heap.size = w.heap.size + 1:=by rw [hW]; simp
 have hL:=(Ms.run_lookup Tryz.underlying101 Tryz.underlying9 (k:=name) (h.out.vars.grow hWg) (hz W)).2
 rw [val_look] at hL
 obtain ⟨c0,c1,c2,c3,_⟩:=bd_cells ((hWg.block _ hF (by simp)).trans h4.blk)
 cases hk:Sm.look v name with
 | some y =>
  have HR:Hid (r = .error 7):=by unfold Hid; rw [hr.out,hk]; rfl
  rw [hk] at hL
  simp only [Option.map_some,Option.getD_some,Option.isSome_some] at hL
  have k:∀ o:Nat,(W.alloc (.cells #[.int .i64 y.kind,.string y.gen] 35)).cell? ⟨K.F,o,none⟩ = W.cell? ⟨K.F,o,none⟩:=fun o => World.cell?_of_block (Below.heap_alloc _ _ _ (by dsimp; omega))
  have d0:=(k 0).trans c0
  have d1:=(k 1).trans c1
  have d2:=(k 2).trans c2
  subst hW
  clear hr hk hz h4 k hWg hWs
  go_enter Tryz.func105,Tryz.ntmps105
  go_wp2_with fail
  refine (fail_any K.l.length K.a K.c K.M K.num 7 _).mono ?_
  rintro e w1 ⟨rfl,hg⟩
  have HE:Hid (Bf K w v r (.panicked [fltE 7 K.num]) w1):=Bf.bad h.out (grown_trans (grown_a2 _ _) hg) HR.out
  clear hg
  go_wp2
  exact ⟨rfl,HE.out⟩
 | none =>
  have HR:Hid (r = .ok (.tuple #[],v ++ [(name,⟨tk,tg⟩)],t)):=by unfold Hid; rw [hr.out,hk]; rfl
  have HL:Hid (Sm.look v name = none):=hk
  rw [hk] at hL
  simp only [Option.map_none,Option.getD_none,Option.isSome_none] at hL
  obtain ⟨W2,hW2⟩:∃ W2,W2 = W.alloc (.cells #[.int .i64 0,.string ⟨#[]⟩] 35):=⟨_,rfl⟩
  have hg2:w.grownBy W2 none:=by rw [hW2]; exact grown_trans hWg (grown_a _)
  have HB2:Hid (BW K W2 v t):=h.out.grown hg2
  have HK2:Hid (Kpt K w W2):=Kpt.grown hg2 hF
  have hbl:W2.heap[w.heap.size]? = some (.cells #[.int .i64 tk,.string tg] 35 (0,0)):=by rw [hW2,hW]; exact (Below.heap_alloc _ _ _ (by simp)).trans (heap_alloc_new w _)
  obtain ⟨b0,b1,_,_⟩:=two_cell hbl
  have HFr:Hid (Free K W2 w.heap.size):=h.out.free hg2 (Nat.le_refl _)
  have hs2:w.heap.size < W2.heap.size:=lt_of_block hbl
  have HBl:Hid (W2.heap[w.heap.size]? = some (.cells #[.int .i64 tk,.string tg] 35 (0,0))):=hbl
  subst hW
  have HW2:Hid (W2 = _):=hW2
  clear hr hk hz h4 hWg hWs hg2 hW2 hbl
  go_enter Tryz.func105,Tryz.ntmps105
  go_wp2_with fail
  rw [← HW2.out]
  clear hL c0 c1 c2 c3
  go_region_held3 (fun w' => w'.cell? ⟨w.heap.size,0,none⟩ = some (.int .i64 tk) ∧ w'.cell? ⟨w.heap.size,1,none⟩ = some (.string tg)) (go_keep) ((go_at_call 68; refine (let_any K v t name ⟨tk,tg⟩ _ (by exact HB2.out.drewN _) HL hn).mono ?_; rintro e w3 ⟨rfl,hb3,hk3⟩; have HE:Hid (Bf K w v r (.returned (.tuple #[])) w3):=(by rw [HR.out]; exact ⟨HK2.out.trans hk3.ofDrewN,rfl,hb3⟩); obtain ⟨e0,e1,_,_⟩:=two_cell (((hk3.ofDrewN.block _ hs2 HFr.out).1).trans HBl.out); clear hb3 hk3))
  go_wp2
  go_end0
  exact HE.out
end Sm
end Go.Proofs.YtbioaoangfiijaaGreatDoor
