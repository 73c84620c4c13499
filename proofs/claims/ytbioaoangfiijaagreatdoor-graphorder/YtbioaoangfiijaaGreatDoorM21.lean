/- Rows that grow in a talk of one's own; appended rows. -/
import Derived.Test.YtbioaoangfiijaaGreatDoorM20
set_option maxRecDepth 100000
namespace Go.Proofs.YtbioaoangfiijaaGreatDoor
open Go.RowKit
namespace Sm
theorem run_append_nothing {P:Program} {w:World} (base:Nat) (t ty e:TypeId) (i:TypeInfo) (size:Nat) (ht:P.underlying t = some (.slice e)) (hi:P.info? e = some i) (v:Value) (n:Nat) (xs:List Value) (hown:w.ownsRow base e size v n xs) (ao:Option Addr) (c:Nat) :
  (Builtin.append_ #[t,t] ty #[v,.slice ao 0 c]).run P w = .ok v w:=by
 cases ao with
 | none =>
  rcases hown.2 with ⟨rfl,rfl⟩ | ⟨g,cap,cur,rfl,_,_,hnc,_⟩
  ·simp [Builtin.append_,run_underlying ht,sizeOf,typeInfo,hi,Builtin.lenOf,Builtin.firstCells]
  ·simp [Builtin.append_,run_underlying ht,sizeOf,typeInfo,hi,Builtin.lenOf,Builtin.firstCells,hnc,storeCells]
 | some ad =>
  rcases hown.2 with ⟨rfl,rfl⟩ | ⟨g,cap,cur,rfl,_,_,hnc,_⟩
  ·simp [Builtin.append_,run_underlying ht,sizeOf,typeInfo,hi,Builtin.lenOf,Builtin.firstCells,loadCells,loadCellsFrom]
  ·simp [Builtin.append_,run_underlying ht,sizeOf,typeInfo,hi,Builtin.lenOf,Builtin.firstCells,hnc,storeCells,loadCells,loadCellsFrom]
theorem op_append_nums {w:World} {o:Oper} {a:Act} {K:Act → World → Prop} {Q:Exit → Act → World → Prop} (s x:Operand)
  (ho:o.op = .call { callee:=.builtin .append,args:=#[s,x],argTypes:=#[94,94] }) (base:Nat) (v:Value) (xs ns:List Nat) (hs:a.eval s = v) (hown:w.ownsRow base 3 1 v xs.length (nats xs)) (vx:Value) (hx:a.eval x = vx) (hns:∃ Bx,w.ownsRow Bx 3 1 vx ns.length (nats ns)) (hn:xs.length + ns.length ≤ 17000000000000) (hbase:base ≤ w.heap.size)
  (h:∀ v' w',w'.ownsRow base 3 1 v' (xs ++ ns).length (nats (xs ++ ns)) → w.grownBy w' v.ownBlock → (∀ k,v'.ownBlock = some k → v.ownBlock = some k ∨ w.heap.size ≤ k) → K (a.put o.dst v') w'):o.wp Tryz.prog a w K Q:=by
 obtain ⟨i0,hi,hz0,hz1,hz2⟩:=info_parts Tryz.info3
 obtain ⟨Bx,hns⟩:=hns
 have el:(xs ++ ns).length = xs.length + ns.length:=by simp
 have en:nats (xs ++ ns) = nats xs ++ nats ns:=by simp
 by_cases h0:ns.length = 0
 ·obtain ⟨ao,c,hv⟩:=own_form hns
  rw [h0] at hv
  subst hv
  have hnil:ns = []:=List.eq_nil_of_length_eq_zero h0
  subst hnil
  have hrun:=run_append_nothing (P:=Tryz.prog) (w:=w) base 94 o.type 3 i0 1 Tryz.underlying94 hi v xs.length _ hown ao c
  unfold Oper.wp
  simp [execOp,ho,resolve,invoke,builtin,hs,hx,hrun,Result.andThen]
  exact (h v w (by simpa using hown) (World.grownBy.refl _ _) (fun k hk => .inl hk))
 ·rcases hns.2 with ⟨rfl,h1⟩ | ⟨g,cap,cur,rfl,_,hh,hnc,_,hcs,ht⟩
  ·exact absurd h1 h0
  ·have hnews:∀ j u,(nats ns)[j]? = some u → w.cell? ((⟨g,0,none⟩:Addr).add j) = some u:=fun j u hu => by
    rw [← ht,List.getElem?_take] at hu
    split at hu
    ·have ea:(⟨g,0,none⟩:Addr).add j = ⟨g,j,none⟩:=by
      unfold Addr.add
      split
      ·subst_vars; rfl
      ·simp
     rw [ea]
     simp [World.cell?,hh]
     simpa using hu
    ·cases hu
   obtain ⟨v',w',hr,h2,h3,g',cap',hv',h4⟩:=run_append_where (P:=Tryz.prog) w base 94 o.type 3 i0 _ 1 8 Tryz.underlying94 hi hz0 hz1 hz2 rfl (by decide) v xs.length (nats xs) hown ⟨g,0,none⟩ ns.length cap (nats ns) (by simp) hnews (fun u hu => by obtain ⟨y,_,rfl⟩:=List.mem_map.1 hu; rfl) (by omega) (by unfold maxLen; omega) (by omega) hbase
   unfold Oper.wp
   simp [execOp,ho,resolve,invoke,builtin,hs,hx,hr,Result.andThen]
   refine (h v' w' (by rw [el,en]; exact h2) h3 (fun k hk => ?_))
   rw [hv'] at hk
   simp only [Value.ownBlock,Option.some.injEq] at hk
   subst hk
   rcases h4 with h5 | h5
   ·exact .inl h5
   ·exact .inr (by omega)
theorem wpList_append_nums {w:World} {ops:Array Oper} {rest:List Oper} {o:Oper} {a:Act} {Q:Exit → Act → World → Prop} (hgd:o.guard = none) (s x:Operand)
  (ho:o.op = .call { callee:=.builtin .append,args:=#[s,x],argTypes:=#[94,94] }) (base:Nat) (v:Value) (xs ns:List Nat) (hs:a.eval s = v) (hown:w.ownsRow base 3 1 v xs.length (nats xs)) (vx:Value) (hx:a.eval x = vx) (hns:∃ Bx,w.ownsRow Bx 3 1 vx ns.length (nats ns)) (hn:xs.length + ns.length ≤ 17000000000000) (hbase:base ≤ w.heap.size)
  (h:∀ v' w',w'.ownsRow base 3 1 v' (xs ++ ns).length (nats (xs ++ ns)) → w.grownBy w' v.ownBlock → (∀ k,v'.ownBlock = some k → v.ownBlock = some k ∨ w.heap.size ≤ k) → wpList Tryz.prog ops Q rest (a.put o.dst v') w'):wpList Tryz.prog ops Q (o :: rest) a w :=
 wpList_plain hgd fun _ hK => op_append_nums s x ho base v xs ns hs hown vx hx hns hn hbase fun v' w' h1 h2 h3 => hK _ _ (h v' w' h1 h2 h3)
structure Rc (w0 W:World) (Ob:Nat) (s r c:List Nat) (vs vr vc:Value):Prop where
 blk:W.heap[Ob]? = some (.cells #[vs,vr,vc] 96 (0,0))
 so:W.ownsRow w0.heap.size 3 1 vs s.length (nats s)
 ro:W.ownsRow w0.heap.size 3 1 vr r.length (nats r)
 co:W.ownsRow w0.heap.size 3 1 vc c.length (nats c)
 far:∀ k,(vs.ownBlock = some k → vr.ownBlock ≠ some k ∧ vc.ownBlock ≠ some k) ∧ (vr.ownBlock = some k → vc.ownBlock ≠ some k)
theorem Rc.app0 {w0 W W':World} {Ob:Nat} {s r c:List Nat} {vs vr vc v':Value} {ns:List Nat} (h:Rc w0 W Ob s r c vs vr vc) (hg:W.grownBy W' vs.ownBlock) (ho:W'.ownsRow w0.heap.size 3 1 v' (s ++ ns).length (nats (s ++ ns))) (hw:∀ k,v'.ownBlock = some k → vs.ownBlock = some k ∨ W.heap.size ≤ k) :
  Rc w0 (W'.setCell ⟨Ob,0,none⟩ v') Ob (s ++ ns) r c v' vr vc:=by
 have hsz:=hg.size
 have hOl:=lt_of_block h.blk
 have hx:=h.so
 have ne:∀ {v:Value} {n:Nat} {xs:List Value} {X:World},X.heap[Ob]? = some (.cells #[vs,vr,vc] 96 (0,0)) → X.ownsRow w0.heap.size 3 1 v n xs → v.ownBlock ≠ some Ob:=fun {v n xs X} hb ho' e => by
  obtain ⟨_,_,cur,hc⟩:=own_lt ho' _ e
  rw [hb] at hc
  cases hc
 have hb':W'.heap[Ob]? = some (.cells #[vs,vr,vc] 96 (0,0)):=(hg.block _ hOl (fun e => ne h.blk hx e.symm)).trans h.blk
 have set:∀ k,k ≠ Ob → (W'.setCell ⟨Ob,0,none⟩ v').heap[k]? = W'.heap[k]?:=fun k hk => Below.heap_setCell W' ⟨Ob,0,none⟩ v' k hk
 have other:∀ {v:Value} {n:Nat} {xs:List Value},W.ownsRow w0.heap.size 3 1 v n xs → (∀ k,vs.ownBlock = some k → v.ownBlock ≠ some k) → (W'.setCell ⟨Ob,0,none⟩ v').ownsRow w0.heap.size 3 1 v n xs:=fun {v n xs} ho' hf => own_keep ho' fun k hk => by
  have hlt:=(own_lt ho' k hk).2.1
  exact (set k (fun e => ne h.blk ho' (by rw [← e]; exact hk))).trans (hg.block k hlt (fun e => hf k e.symm hk))
 have newf:∀ {v:Value} {n:Nat} {xs:List Value},W.ownsRow w0.heap.size 3 1 v n xs → (∀ k,vs.ownBlock = some k → v.ownBlock ≠ some k) → ∀ k,v.ownBlock = some k → v'.ownBlock ≠ some k:=fun {v n xs} ho' hf k hk e => by
  rcases hw k e with h1 | h1
  ·exact hf k h1 hk
  ·have:=(own_lt ho' k hk).2.1; omega
 have hn:(W'.setCell ⟨Ob,0,none⟩ v').ownsRow w0.heap.size 3 1 v' (s ++ ns).length (nats (s ++ ns)):=own_keep ho fun k hk => set k (fun e => ne hb' ho (by rw [← e]; exact hk))
 have fr:=h.far
 have hb2:(W'.setCell ⟨Ob,0,none⟩ v').heap[Ob]? = some (.cells #[v',vr,vc] 96 (0,0)):=set_at hb' 0 v'
 exact ⟨hb2,hn,other h.ro (fun k hk => ((fr k).1 hk).1),other h.co (fun k hk => ((fr k).1 hk).2),fun k => ⟨fun e => ⟨fun e2 => newf h.ro (fun k hk => ((fr k).1 hk).1) k e2 e,fun e2 => newf h.co (fun k hk => ((fr k).1 hk).2) k e2 e⟩,(fr k).2⟩⟩
theorem Rc.app1 {w0 W W':World} {Ob:Nat} {s r c:List Nat} {vs vr vc v':Value} {ns:List Nat} (h:Rc w0 W Ob s r c vs vr vc) (hg:W.grownBy W' vr.ownBlock) (ho:W'.ownsRow w0.heap.size 3 1 v' (r ++ ns).length (nats (r ++ ns))) (hw:∀ k,v'.ownBlock = some k → vr.ownBlock = some k ∨ W.heap.size ≤ k) :
  Rc w0 (W'.setCell ⟨Ob,1,none⟩ v') Ob s (r ++ ns) c vs v' vc:=by
 have hsz:=hg.size
 have hOl:=lt_of_block h.blk
 have hx:=h.ro
 have ne:∀ {v:Value} {n:Nat} {xs:List Value} {X:World},X.heap[Ob]? = some (.cells #[vs,vr,vc] 96 (0,0)) → X.ownsRow w0.heap.size 3 1 v n xs → v.ownBlock ≠ some Ob:=fun {v n xs X} hb ho' e => by
  obtain ⟨_,_,cur,hc⟩:=own_lt ho' _ e
  rw [hb] at hc
  cases hc
 have hb':W'.heap[Ob]? = some (.cells #[vs,vr,vc] 96 (0,0)):=(hg.block _ hOl (fun e => ne h.blk hx e.symm)).trans h.blk
 have set:∀ k,k ≠ Ob → (W'.setCell ⟨Ob,1,none⟩ v').heap[k]? = W'.heap[k]?:=fun k hk => Below.heap_setCell W' ⟨Ob,1,none⟩ v' k hk
 have other:∀ {v:Value} {n:Nat} {xs:List Value},W.ownsRow w0.heap.size 3 1 v n xs → (∀ k,vr.ownBlock = some k → v.ownBlock ≠ some k) → (W'.setCell ⟨Ob,1,none⟩ v').ownsRow w0.heap.size 3 1 v n xs:=fun {v n xs} ho' hf => own_keep ho' fun k hk => by
  have hlt:=(own_lt ho' k hk).2.1
  exact (set k (fun e => ne h.blk ho' (by rw [← e]; exact hk))).trans (hg.block k hlt (fun e => hf k e.symm hk))
 have newf:∀ {v:Value} {n:Nat} {xs:List Value},W.ownsRow w0.heap.size 3 1 v n xs → (∀ k,vr.ownBlock = some k → v.ownBlock ≠ some k) → ∀ k,v.ownBlock = some k → v'.ownBlock ≠ some k:=fun {v n xs} ho' hf k hk e => by
  rcases hw k e with h1 | h1
  ·exact hf k h1 hk
  ·have:=(own_lt ho' k hk).2.1; omega
 have hn:(W'.setCell ⟨Ob,1,none⟩ v').ownsRow w0.heap.size 3 1 v' (r ++ ns).length (nats (r ++ ns)):=own_keep ho fun k hk => set k (fun e => ne hb' ho (by rw [← e]; exact hk))
 have fr:=h.far
 have hb2:(W'.setCell ⟨Ob,1,none⟩ v').heap[Ob]? = some (.cells #[vs,v',vc] 96 (0,0)):=set_at hb' 1 v'
 exact ⟨hb2,other h.so (fun k hk e => ((fr k).1 e).1 hk),hn,other h.co (fun k hk => (fr k).2 hk),fun k => ⟨fun e => ⟨newf h.so (fun k hk e => ((fr k).1 e).1 hk) k e,((fr k).1 e).2⟩,fun e e2 => newf h.co (fun k hk => (fr k).2 hk) k e2 e⟩⟩
theorem Rc.app2 {w0 W W':World} {Ob:Nat} {s r c:List Nat} {vs vr vc v':Value} {ns:List Nat} (h:Rc w0 W Ob s r c vs vr vc) (hg:W.grownBy W' vc.ownBlock) (ho:W'.ownsRow w0.heap.size 3 1 v' (c ++ ns).length (nats (c ++ ns))) (hw:∀ k,v'.ownBlock = some k → vc.ownBlock = some k ∨ W.heap.size ≤ k) :
  Rc w0 (W'.setCell ⟨Ob,2,none⟩ v') Ob s r (c ++ ns) vs vr v':=by
 have hsz:=hg.size
 have hOl:=lt_of_block h.blk
 have hx:=h.co
 have ne:∀ {v:Value} {n:Nat} {xs:List Value} {X:World},X.heap[Ob]? = some (.cells #[vs,vr,vc] 96 (0,0)) → X.ownsRow w0.heap.size 3 1 v n xs → v.ownBlock ≠ some Ob:=fun {v n xs X} hb ho' e => by
  obtain ⟨_,_,cur,hc⟩:=own_lt ho' _ e
  rw [hb] at hc
  cases hc
 have hb':W'.heap[Ob]? = some (.cells #[vs,vr,vc] 96 (0,0)):=(hg.block _ hOl (fun e => ne h.blk hx e.symm)).trans h.blk
 have set:∀ k,k ≠ Ob → (W'.setCell ⟨Ob,2,none⟩ v').heap[k]? = W'.heap[k]?:=fun k hk => Below.heap_setCell W' ⟨Ob,2,none⟩ v' k hk
 have other:∀ {v:Value} {n:Nat} {xs:List Value},W.ownsRow w0.heap.size 3 1 v n xs → (∀ k,vc.ownBlock = some k → v.ownBlock ≠ some k) → (W'.setCell ⟨Ob,2,none⟩ v').ownsRow w0.heap.size 3 1 v n xs:=fun {v n xs} ho' hf => own_keep ho' fun k hk => by
  have hlt:=(own_lt ho' k hk).2.1
  exact (set k (fun e => ne h.blk ho' (by rw [← e]; exact hk))).trans (hg.block k hlt (fun e => hf k e.symm hk))
 have newf:∀ {v:Value} {n:Nat} {xs:List Value},W.ownsRow w0.heap.size 3 1 v n xs → (∀ k,vc.ownBlock = some k → v.ownBlock ≠ some k) → ∀ k,v.ownBlock = some k → v'.ownBlock ≠ some k:=fun {v n xs} ho' hf k hk e => by
  rcases hw k e with h1 | h1
  ·exact hf k h1 hk
  ·have:=(own_lt ho' k hk).2.1; omega
 have hn:(W'.setCell ⟨Ob,2,none⟩ v').ownsRow w0.heap.size 3 1 v' (c ++ ns).length (nats (c ++ ns)):=own_keep ho fun k hk => set k (fun e => ne hb' ho (by rw [← e]; exact hk))
 have fr:=h.far
 have hb2:(W'.setCell ⟨Ob,2,none⟩ v').heap[Ob]? = some (.cells #[vs,vr,v'] 96 (0,0)):=set_at hb' 2 v'
 exact ⟨hb2,other h.so (fun k hk e => ((fr k).1 e).2 hk),other h.ro (fun k hk e => (fr k).2 e hk),hn,fun k => ⟨fun e => ⟨((fr k).1 e).1,newf h.so (fun k hk e => ((fr k).1 e).2 hk) k e⟩,fun e => newf h.ro (fun k hk e => (fr k).2 e hk) k e⟩⟩
end Sm
namespace Sm
theorem nodup_len:∀ (L:Nat) (l:List Nat),l.Nodup → (∀ x ∈ l,x < L) → l.length ≤ L
 | 0,[],_,_ => Nat.le_refl _
 | 0,x :: _,_,h => absurd (h x List.mem_cons_self) (by omega)
 | L + 1,l,hn,h => by
  have h1:=nodup_len L (l.erase L) (hn.erase L) (fun x hx => by
   have h2:=(hn.mem_erase_iff).1 hx
   have:=h x h2.2
   have:=h2.1
   omega)
  rw [List.length_erase] at h1
  split at h1 <;> omega
theorem fm_le {f:Nat → List Nat} {M:Nat}:∀ (l:List Nat),(∀ x ∈ l,(f x).length ≤ M) → (l.flatMap f).length ≤ l.length * M
 | [],_ => by simp
 | x :: l,h => by
  have h1:=fm_le l (fun y hy => h y (List.mem_cons_of_mem _ hy))
  have h2:=h x List.mem_cons_self
  rw [List.flatMap_cons,List.length_append,List.length_cons,Nat.add_mul]
  omega
abbrev tkAt (talks:List Tk) (n:Nat):Tk:=(talks[n]?).getD Tk.none
abbrev stp (o:List Nat) (c:Nat):List Nat:=if c ∈ o then o else o ++ [c]
theorem reach_end (talks:List Tk) {out:List Nat} {i:Nat} (h:out[i]? = none):∀ f,reach talks f i out = out
 | 0 => rfl
 | f + 1 => by rw [reach,h]
theorem reach_step (talks:List Tk) {out:List Nat} {i n:Nat} (h:out[i]? = some n) (f:Nat):reach talks (f + 1) i out = reach talks f (i + 1) ((tkAt talks n).calls.foldl stp out):=by rw [reach,h]
theorem own_new (W:World) (y:Nat):(W.alloc (.cells #[.int .i64 (y:Int)] 3)).ownsRow W.heap.size 3 1 (.slice (some ⟨W.heap.size,0,none⟩) 1 1) [y].length (nats [y]) :=
 ⟨by simp,.inr ⟨W.heap.size,1,_,rfl,Nat.le_refl _,heap_alloc_new _ _,by simp,by unfold maxLen; decide,rfl,by simp⟩⟩
theorem own_base {w:World} {B C e size n:Nat} {v:Value} {xs:List Value} (h:w.ownsRow C e size v n xs) (hB:B ≤ C):w.ownsRow B e size v n xs:=by
 refine ⟨h.1,?_⟩
 rcases h.2 with h2 | ⟨g',cap,cur,rfl,hb,hr⟩
 ·exact .inl h2
 ·exact .inr ⟨g',cap,cur,rfl,Nat.le_trans hB hb,hr⟩
theorem three_frozen {w:World} {b:Nat} {v0 v1 v2:Value} {t:TypeId} (h:w.heap[b]? = some (.cells #[v0,v1,v2] t (0,0))):w.frozen? ⟨b,0,none⟩ = false ∧ w.frozen? ⟨b,1,none⟩ = false ∧ w.frozen? ⟨b,2,none⟩ = false:=by simp [World.frozen?,h]
theorem keepT {w W W':World} {Ob b c:Nat} {v v':Value} {n:Nat} {xs:List Value} {o:Array Value} (ho:W.ownsRow w.heap.size 3 1 v n xs) (hg:W.grownBy W' v.ownBlock) (hb:W.heap[b]? = some (.cells o 96 (0,0))) (hne:b ≠ Ob):(W'.setCell ⟨Ob,c,none⟩ v').heap[b]? = some (.cells o 96 (0,0)):=by
 refine (Below.heap_setCell W' ⟨Ob,c,none⟩ v' b hne).trans ((hg.block b (lt_of_block hb) (fun e => ?_)).trans hb)
 obtain ⟨_,_,cur,hc⟩:=own_lt ho b e.symm
 rw [hb] at hc
 cases hc
theorem keepG {w W W':World} {Ob c:Nat} {v v':Value} {n:Nat} {xs:List Value} (hgr:w.grownBy W none) (ho:W.ownsRow w.heap.size 3 1 v n xs) (hg:W.grownBy W' v.ownBlock) (hO:w.heap.size ≤ Ob):w.grownBy (W'.setCell ⟨Ob,c,none⟩ v') none :=
 ⟨hg.os.trans hgr.os,hg.tape.trans hgr.tape,hg.output.trans hgr.output,by have:=hg.size; have:=hgr.size; simp [World.setCell]; omega,fun k hk _ => by
  refine (Below.heap_setCell W' ⟨Ob,c,none⟩ v' k (by show k ≠ Ob; omega)).trans ((hg.block k (by have:=hgr.size; omega) (fun e => ?_)).trans (hgr.block k hk (by simp)))
  have:=(own_lt ho k e.symm).1
  omega⟩
structure Rr (w W:World) (s r c:List Nat) (vs vr vc:Value):Prop where
 rc:Rc w W (w.heap.size + 1 + 1) s r c vs vr vc
 res:W.heap[w.heap.size]? = some (.cells #[.slice none 0 0,.slice none 0 0,.slice none 0 0] 96 (0,0))
 gr:w.grownBy W none
theorem Rr.alloc {w W:World} {s r c:List Nat} {vs vr vc:Value} (h:Rr w W s r c vs vr vc) (o:Obj):Rr w (W.alloc o) s r c vs vr vc :=
 ⟨⟨(Below.heap_alloc _ _ _ (lt_of_block h.rc.blk)).trans h.rc.blk,h.rc.so.alloc _,h.rc.ro.alloc _,h.rc.co.alloc _,h.rc.far⟩,(Below.heap_alloc _ _ _ (lt_of_block h.res)).trans h.res,grown_trans h.gr (grown_a _)⟩
theorem Rr.drew {w W:World} {s r c:List Nat} {vs vr vc:Value} (h:Rr w W s r c vs vr vc):Rr w W.drew s r c vs vr vc :=
 ⟨⟨h.rc.blk,h.rc.so,h.rc.ro,h.rc.co,h.rc.far⟩,h.res,⟨h.gr.os,h.gr.tape,h.gr.output,h.gr.size,h.gr.block⟩⟩
theorem Rr.app0 {w W W':World} {s r c:List Nat} {vs vr vc v':Value} {ns:List Nat} (h:Rr w W s r c vs vr vc) (hg:W.grownBy W' vs.ownBlock) (ho:W'.ownsRow w.heap.size 3 1 v' (s ++ ns).length (nats (s ++ ns))) (hw:∀ k,v'.ownBlock = some k → vs.ownBlock = some k ∨ W.heap.size ≤ k) :
  Rr w (W'.setCell ⟨w.heap.size + 1 + 1,0,none⟩ v') (s ++ ns) r c v' vr vc :=
 ⟨h.rc.app0 hg ho hw,keepT h.rc.so hg h.res (by omega),keepG h.gr h.rc.so hg (by omega)⟩
theorem Rr.app1 {w W W':World} {s r c:List Nat} {vs vr vc v':Value} {ns:List Nat} (h:Rr w W s r c vs vr vc) (hg:W.grownBy W' vr.ownBlock) (ho:W'.ownsRow w.heap.size 3 1 v' (r ++ ns).length (nats (r ++ ns))) (hw:∀ k,v'.ownBlock = some k → vr.ownBlock = some k ∨ W.heap.size ≤ k) :
  Rr w (W'.setCell ⟨w.heap.size + 1 + 1,1,none⟩ v') s (r ++ ns) c vs v' vc :=
 ⟨h.rc.app1 hg ho hw,keepT h.rc.ro hg h.res (by omega),keepG h.gr h.rc.ro hg (by omega)⟩
theorem Rr.app2 {w W W':World} {s r c:List Nat} {vs vr vc v':Value} {ns:List Nat} (h:Rr w W s r c vs vr vc) (hg:W.grownBy W' vc.ownBlock) (ho:W'.ownsRow w.heap.size 3 1 v' (c ++ ns).length (nats (c ++ ns))) (hw:∀ k,v'.ownBlock = some k → vc.ownBlock = some k ∨ W.heap.size ≤ k) :
  Rr w (W'.setCell ⟨w.heap.size + 1 + 1,2,none⟩ v') s r (c ++ ns) vs vr v' :=
 ⟨h.rc.app2 hg ho hw,keepT h.rc.co hg h.res (by omega),keepG h.gr h.rc.co hg (by omega)⟩
theorem Rr.begin (w:World) (task:Nat):Rr w (((w.alloc (.cells #[.slice none 0 0,.slice none 0 0,.slice none 0 0] 96)).alloc (.cells #[.int .i64 (task:Int)] 3)).alloc (.cells #[.slice none 0 0,.slice none 0 0,.slice (some ⟨w.heap.size + 1,0,none⟩) 1 1] 96)) [] [] [task] (.slice none 0 0) (.slice none 0 0) (.slice (some ⟨w.heap.size + 1,0,none⟩) 1 1):=by
 refine ⟨⟨?_,⟨rfl,.inl ⟨rfl,rfl⟩⟩,⟨rfl,.inl ⟨rfl,rfl⟩⟩,?_,fun k => ⟨fun e => by simp [Value.ownBlock] at e,fun e => by simp [Value.ownBlock] at e⟩⟩,?_,grown_trans (grown_a2 _ _) (grown_a _)⟩
 ·have:=heap_alloc_new ((w.alloc (.cells #[.slice none 0 0,.slice none 0 0,.slice none 0 0] 96)).alloc (.cells #[.int .i64 (task:Int)] 3)) (.cells #[.slice none 0 0,.slice none 0 0,.slice (some ⟨w.heap.size + 1,0,none⟩) 1 1] 96)
  rw [World.size_alloc,World.size_alloc] at this
  exact this
 ·have:=own_new (w.alloc (.cells #[.slice none 0 0,.slice none 0 0,.slice none 0 0] 96)) task
  rw [World.size_alloc] at this
  exact (own_base this (by omega)).alloc _
 ·exact (Below.heap_alloc _ _ _ (by simp; omega)).trans ((Below.heap_alloc _ _ _ (by simp)).trans (heap_alloc_new _ _))
def Tl (L:Nat) (t:Tk):Prop:=t.sends.length ≤ 100000000 ∧ t.recvs.length ≤ 100000000 ∧ t.calls.length ≤ 100000000 ∧ ∀ c ∈ t.calls,c < L
structure ReAt (talks:List Tk) (w W:World) (k:Nat) (cs:List Nat) (vs vr vc:Value):Prop where
 row:Rr w W ((cs.take k).flatMap fun n => (tkAt talks n).sends) ((cs.take k).flatMap fun n => (tkAt talks n).recvs) cs vs vr vc
 nd:cs.Nodup
 lt:∀ x ∈ cs,x < talks.length
 kl:k ≤ cs.length
theorem ReAt.len {talks:List Tk} {w W:World} {k:Nat} {cs:List Nat} {vs vr vc:Value} (h:ReAt talks w W k cs vs vr vc):cs.length ≤ talks.length:=nodup_len _ _ h.nd h.lt
theorem ReAt.few {talks:List Tk} {w W:World} {k:Nat} {cs:List Nat} {vs vr vc:Value} (h:ReAt talks w W k cs vs vr vc) (hl:talks.length ≤ 100000) (hb:∀ n,n < talks.length → Tl talks.length (tkAt talks n)):((cs.take k).flatMap fun n => (tkAt talks n).sends).length ≤ 10000000000000 ∧ ((cs.take k).flatMap fun n => (tkAt talks n).recvs).length ≤ 10000000000000:=by
 have h1:(cs.take k).length ≤ 100000:=by have:=h.len; simp; omega
 have h2:∀ x ∈ cs.take k,x < talks.length:=fun x hx => h.lt x (List.mem_of_mem_take hx)
 have h3:=fm_le (f:=fun n => (tkAt talks n).sends) (M:=100000000) (cs.take k) (fun x hx => (hb x (h2 x hx)).1)
 have h4:=fm_le (f:=fun n => (tkAt talks n).recvs) (M:=100000000) (cs.take k) (fun x hx => (hb x (h2 x hx)).2.1)
 have h5:(cs.take k).length * 100000000 ≤ 100000 * 100000000:=Nat.mul_le_mul_right _ h1
 exact ⟨by omega,by omega⟩
end Sm
end Go.Proofs.YtbioaoangfiijaaGreatDoor
