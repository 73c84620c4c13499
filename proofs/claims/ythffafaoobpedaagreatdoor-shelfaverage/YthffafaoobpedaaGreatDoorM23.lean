/- A row that is taken at its front;the walks of same and both. -/
import Derived.Test.YthffafaoobpedaaGreatDoorM3
import Derived.Test.YthffafaoobpedaaGreatDoorM22
import Derived.Maps.RangeWalk
import Derived.LaidEql
set_option maxRecDepth 100000
set_option maxHeartbeats 2000000
namespace Go.Proofs.YthffafaoobpedaaGreatDoor
open Go.RowKit
abbrev oz (l:List Nat):List Value:=l.map (fun (x:Nat)=>Value.int .i64 (x:Int))
def QR (w:World)(B:Nat)(v:Value)(ws:List Nat):Prop :=
 (v=.slice none 0 0∧ws=[])∨∃ g off cap cs,v=.slice (some ⟨g,off,none⟩) ws.length cap∧B≤g∧w.heap[g]?=some (.cells (List.toArray cs) 3 (0,0))∧off+cap≤cs.length∧ws.length≤cap∧∀ (i x:Nat),ws[i]?=some x→cs[off+i]?=some (Value.int .i64 (x:Int))
theorem QR.nil (w:World)(B:Nat):QR w B (.slice none 0 0) []:=.inl ⟨rfl,rfl⟩
theorem Mh {w:World}{B n:Nat}{v:Value}{ws:List Nat}(h:w.ownsRow B 3 1 v n (oz ws)):QR w B v ws:=by
 have hl:ws.length=n:=by have:=h.1;simpa using this
 subst hl
 rcases h.2 with ⟨rfl,h0⟩ | ⟨g,cap,cur,rfl,hg,hh,h1,h2,h3,h4⟩
 ·exact .inl ⟨rfl,List.eq_nil_of_length_eq_zero h0⟩
 ·refine .inr ⟨g,0,cap,cur.toList,rfl,hg,hh,by simp;omega,h1,fun i x hx=>?_⟩
  have:(oz ws)[i]?=some (.int .i64 (x:Int)):=by simp [hx]
  rw [← h4,List.getElem?_take] at this
  split at this
  ·simpa using this
  ·simp at this
theorem QR.keep {w w':World}{B:Nat}{v:Value}{ws:List Nat}(h:QR w B v ws)(hk:∀ k,v.ownBlock=some k→w'.heap[k]?=w.heap[k]?):QR w' B v ws:=by
 rcases h with h | ⟨g,off,cap,cs,rfl,hB,hh,r⟩
 ·exact .inl h
 ·exact .inr ⟨g,off,cap,cs,rfl,hB,(hk g rfl).trans hh,r⟩
theorem QR.lt {w:World}{B:Nat}{v:Value}{ws:List Nat}(h:QR w B v ws)(k:Nat)(hk:v.ownBlock=some k):B≤k∧k < w.heap.size:=by
 rcases h with ⟨rfl,_⟩ | ⟨g,off,cap,cs,rfl,hB,hh,r⟩
 ·simp [Value.ownBlock] at hk
 ·simp only [Value.ownBlock,Option.some.injEq] at hk
  subst hk
  exact ⟨hB,lt_of_block hh⟩
theorem QR.alloc {w:World}{B:Nat}{v:Value}{ws:List Nat}(h:QR w B v ws)(o:Obj):QR (w.alloc o) B v ws:=h.keep (fun k hk=>Below.heap_alloc _ _ _ (h.lt k hk).2)
theorem QR.ty {w:World}{B k:Nat}{v:Value}{ws:List Nat}{o:Obj}(h:QR w B v ws)(hk:w.heap[k]?=some o)(ht:∀ cs fr,o≠.cells cs 3 fr):v.ownBlock≠some k:=by
 rcases h with ⟨rfl,_⟩ | ⟨g,off,cap,cs',rfl,hB,hh,r⟩
 ·simp [Value.ownBlock]
 ·intro e1
  simp only [Value.ownBlock,Option.some.injEq] at e1
  subst e1
  rw [hh] at hk
  simp at hk
  exact ht _ _ hk.symm
theorem QR.form {w:World}{B:Nat}{v:Value}{ws:List Nat}(h:QR w B v ws):∃ a c,v=.slice a ws.length c:=by
 rcases h with ⟨rfl,rfl⟩ | ⟨g,off,cap,cs,rfl,_⟩
 ·exact ⟨_,_,rfl⟩
 ·exact ⟨_,_,rfl⟩
theorem QR.pop {w:World}{B:Nat}{v:Value}{x:Nat}{ws:List Nat}(h:QR w B v (x :: ws)) :
  ∃ g off cap,v=.slice (some ⟨g,off,none⟩) (ws.length+1) cap∧ws.length+1≤cap∧w.cell? ⟨g,off,none⟩=some (.int .i64 (x:Int)) ∧
   (cap=1→QR w B (.slice (some ⟨g,off,none⟩) 0 0) ws)∧(cap≠1→QR w B (.slice (some ⟨g,off+1,none⟩) ws.length (cap - 1)) ws):=by
 rcases h with ⟨_,h⟩ | ⟨g,off,cap,cs,rfl,hB,hh,h1,h2,h3⟩
 ·simp at h
 ·simp only [List.length_cons] at h2
  refine ⟨g,off,cap,rfl,h2,?_,fun hc=>?_,fun hc=>?_⟩
  ·have:=h3 0 x rfl
   simp [World.cell?,hh]
   simpa using this
  ·have hw:ws=[]:=List.eq_nil_of_length_eq_zero (by omega)
   subst hw
   exact .inr ⟨g,off,0,cs,rfl,hB,hh,by omega,Nat.le_refl _,fun i x hx=>by simp at hx⟩
  ·refine .inr ⟨g,off+1,cap - 1,cs,rfl,hB,hh,by omega,by omega,fun i y hy=>?_⟩
   have:=h3 (i+1) y (by simpa using hy)
   rw [show off+1+i=off+(i+1) by omega]
   exact this
theorem V6 {w w':World}{r:Option Nat}(h:w.grownBy w' none):w.grownBy w' r:=⟨h.os,h.tape,h.output,h.size,fun k hk _=>h.block k hk (by simp)⟩
theorem qR {w:World}{B C e size n:Nat}{v:Value}{xs:List Value}(h:w.ownsRow C e size v n xs)(hB:B≤C):w.ownsRow B e size v n xs:=by
 refine ⟨h.1,?_⟩
 rcases h.2 with h2 | ⟨g,cap,cur,hv,hg,r⟩
 ·exact .inl h2
 ·exact .inr ⟨g,cap,cur,hv,Nat.le_trans hB hg,r⟩
theorem rV (g off j:Nat):(⟨g,off,none⟩:Addr).add j=⟨g,off+j,none⟩:=by
 unfold Addr.add
 split
 ·subst_vars;rfl
 ·rfl
theorem Mi (x:Nat):∀ u ∈ [Value.int .i64 (x:Int)],u.oneCell'=true:=by intro u hu;simp at hu;subst hu;rfl
theorem Aj {w:World}{g:Nat}{cs:List Value}{t:TypeId}{fr:Nat × Nat}(h:w.heap[g]?=some (.cells (List.toArray cs) t fr))(i:Nat)(v:Value):(w.setCell ⟨g,i,none⟩ v).heap[g]?=some (.cells (List.toArray (cs.set i v)) t fr):=by
 simp only [World.setCell,Array.getElem?_modify,if_true,h,Option.map_some]
 simp
theorem V7 (w:World)(B:Nat)(ty:TypeId)(v:Value)(ws:List Nat)(x:Nat)(h:QR w B v ws)(a:Addr)(hnews:∀ j u,[Value.int .i64 (x:Int)][j]?=some u→w.cell? (a.add j)=some u)(hn:ws.length≤100000000)(hB:B≤w.heap.size) :
  ∃ v' w',(Builtin.append_ #[27,27] ty #[v,.slice (some a) 1 1]).run Tryz.prog w=.ok v' w'∧QR w' B v' (ws ++ [x])∧w.grownBy w' v.ownBlock:=by
 obtain ⟨i0,hi,hz0,hz1,hz2⟩:=info_parts Tryz.info3
 rcases h with ⟨rfl,rfl⟩ | ⟨g,off,cap,cs,rfl,hBg,hh,h1,h2,h3⟩
 ·obtain ⟨v',w',hr,ho,hg,_⟩:=run_append_own (P:=Tryz.prog) w B 27 ty 3 i0 _ 1 8 Tryz.underlying27 hi hz0 hz1 hz2 rfl (by decide) (.slice none 0 0) 0 [] (World.ownsRow_nil _ _ _ _) a 1 1 [.int .i64 (x:Int)] rfl hnews (Mi x) (by unfold maxLen;omega) (by omega) hB
  exact ⟨v',w',hr,Mh (ws:=[x]) ho,hg⟩
 ·by_cases hroom:ws.length+1≤cap
  ·have hlt:off+ws.length < cs.length:=by omega
   have hr:=run_append_room_cells (P:=Tryz.prog) w 27 ty 3 i0 Tryz.underlying27 hi g off ws.length cap a 1 1 [.int .i64 (x:Int)] (by rw [hz1];rfl) hnews (Mi x) hroom
    (fun j hj=>by
     have hj0:j=0:=by simpa using hj
     subst hj0
     rw [hz1]
     simp [World.cell?,hh,hlt])
    (fun j hj=>by simp [World.frozen?,hh])
   rw [hz1,Nat.mul_one] at hr
   refine ⟨_,_,hr,.inr ⟨g,off,cap,cs.set (off+ws.length) (.int .i64 (x:Int)),by simp,hBg,Aj hh _ _,by simpa using h1,by simpa using hroom,fun i y hy=>?_⟩,⟨rfl,rfl,rfl,by simp [World.setCells,World.setCell],fun k hk hne=>?_⟩⟩
   ·by_cases hi':i < ws.length
    ·rw [List.getElem?_append_left hi'] at hy
     rw [List.getElem?_set_ne (by omega)]
     exact h3 i y hy
    ·have hi2:i=ws.length:=by
      have:=(List.getElem?_eq_some_iff.1 hy).1
      simp at this
      omega
     subst hi2
     simp at hy
     subst hy
     rw [List.getElem?_set_self hlt]
   ·exact Below.heap_setCell w ⟨g,off+ws.length,none⟩ _ k (fun e=>hne (by rw [e];rfl))
  ·obtain ⟨v',w',hr,ho,hg⟩:=run_append_arg_grows (P:=Tryz.prog) w 27 ty 3 i0 _ 1 8 Tryz.underlying27 hi hz0 hz1 hz2 rfl (by decide) ⟨g,off,none⟩ ws.length cap (oz ws) (by simp) (fun j u hu=>by
     rw [rV]
     rw [List.getElem?_map] at hu
     obtain ⟨y,hy,rfl⟩:=Option.map_eq_some_iff.1 hu
     simp [World.cell?,hh,h3 j y hy]) a 1 1 [.int .i64 (x:Int)] rfl hnews (by omega) (by unfold maxLen;omega) (by omega)
   exact ⟨v',w',hr,Mh (ws:=ws ++ [x]) (qR (by simpa using ho) hB),V6 hg⟩
theorem ES {w:World}{ops:Array Oper}{rest:List Oper}{o:Oper}{a:Act}{Q:Exit→Act→World→Prop}(hgd:o.guard=none)(s x:Operand)
  (ho:o.op=.call { callee:=.builtin .append,args:=#[s,x],argTypes:=#[27,27] })
  (B:Nat) (v:Value) (ws:List Nat) (y:Nat) (hs:a.eval s=v) (h:QR w B v ws) (ad:Addr) (hx:a.eval x=.slice (some ad) 1 1) (hnews:∀ j u,[Value.int .i64 (y:Int)][j]?=some u→w.cell? (ad.add j)=some u)
  (hn:ws.length≤100000000) (hB:B≤w.heap.size)
  (hK:∀ v' w',QR w' B v' (ws ++ [y])→w.grownBy w' v.ownBlock→wpList Tryz.prog ops Q rest (a.put o.dst v') w'):wpList Tryz.prog ops Q (o :: rest) a w:=by
 refine wpList_plain hgd fun K hK2=>?_
 obtain ⟨v',w',hr,h2,h3⟩:=V7 w B o.type v ws y h ad hnews hn hB
 unfold Oper.wp
 simp [execOp,ho,resolve,invoke,builtin,hs,hx,hr,Result.andThen]
 exact hK2 _ _ (hK v' w' h2 h3)
abbrev Mj (st:List Int) (top:Option Addr):Value:=.agg #[.pointer top,.int .i64 (st.length:Int)]
theorem Mk {w:World}:∀ {s t:List Int} {a:Option Addr},dW w a s→dW w a t→s=t
 | [],[],_,_,_=>rfl
 | [],_ :: _,_,h1,⟨b,_,e,_⟩=>by rw [show _=none from h1] at e;cases e
 | _ :: _,[],_,⟨b,_,e,_⟩,h2=>by rw [show _=none from h2] at e;cases e
 | x :: s,y :: t,_,⟨b,p,e,hb,hr⟩,⟨b',p',e',hb',hr'⟩=>by
  rw [e] at e'
  cases e'
  rw [hb] at hb'
  simp at hb'
  obtain ⟨rfl,rfl⟩:=hb'
  rw [Mk hr hr']
def V8 (b:Bool)(w:World)(k:Nat)(v v':Value)(W:World):Prop :=
 w.grownBy W none∧∃ p q s t,v=.pointer p∧v'=.pointer q∧dW W p s∧dW W q t∧s.length=k∧t.length=k∧b=decide (s=t)
theorem dW.ET {w w':World}{a:Option Addr}{st:List Int}(h:dW w a st)(hg:w.grownBy w' none):dW w' a st:=h.keep fun b _ hb=>(hg.block b (lt_of_block hb) (by simp)).trans hb
theorem sU {w w':World}(h:w.grownBy w' none):w.grownBy w'.drew none:=⟨h.os,h.tape,h.output,h.size,h.block⟩
theorem lH {w w':World}(h:w.grownBy w' none)(o:Obj):w.grownBy (w'.alloc o) none :=
 ⟨h.os,h.tape,h.output,by have:=h.size;simp;omega,fun k hk hne=>(Below.heap_alloc _ _ _ (by have:=h.size;omega)).trans (h.block k hk hne)⟩
theorem Ml {w:World}{b:Nat}{t:Int}{below:Option Addr}(h:w.heap[b]?=some (.cells #[.int .i64 t,.pointer below] 286 (0,0))):w.cell? ⟨b,0,none⟩=some (.int .i64 t)∧w.cell? ⟨b,1,none⟩=some (.pointer below):=by simp [World.cell?,h]
theorem Tryz.Mm:(Tryz.prog.info? 286).map (·.size)=some 2:=by kernel_rfl
theorem V9 (p:Option Addr)(w:World):(binOp .neq 130 (.pointer p) (.pointer p)).run Tryz.prog w=.ok (.bool false) w:=by
 obtain ⟨j,hj,hj2⟩:=Option.map_eq_some_iff.1 Tryz.Mm
 have h:∀ d:Nat,(Op.equalIn (d+1) 130 (.pointer p) (.pointer p)).run Tryz.prog w=.ok true w:=fun d=>by
  cases p with
  | none=>simp [Op.equalIn,run_underlying Tryz.underlying130]
  | some a=>simp [Op.equalIn,run_underlying Tryz.underlying130,sizeOf,typeInfo,hj,run_sameAddr_same]
 simp only [binOp]
 simp [Op.equal,Op.maxDepth,h 9999]
theorem Wd {b c:Nat}{cb cc:Array Value}{tb tc:TypeId}(w:World)(hne:b≠c)(hb:w.heap[b]?=some (.cells cb tb (0,0)))(hc:w.heap[c]?=some (.cells cc tc (0,0))):(binOp .neq 130 (.pointer (some ⟨b,0,none⟩)) (.pointer (some ⟨c,0,none⟩))).run Tryz.prog w=.ok (.bool true) w:=by
 obtain ⟨j,hj,hj2⟩:=Option.map_eq_some_iff.1 Tryz.Mm
 have h1:=run_sameAddr_other (P:=Tryz.prog) w (a:=⟨b,0,none⟩) (b:=⟨c,0,none⟩) (by intro e;cases e;exact hne rfl) hb hc
 have h:∀ d:Nat,(Op.equalIn (d+1) 130 (.pointer (some ⟨b,0,none⟩)) (.pointer (some ⟨c,0,none⟩))).run Tryz.prog w=.ok false w:=fun d=>by
  simp [Op.equalIn,run_underlying Tryz.underlying130,sizeOf,typeInfo,hj,hj2,h1]
 simp only [binOp]
 simp [Op.equal,Op.maxDepth,h 9999]
theorem EU (s t:List Int)(p q:Option Addr)(w:World)(hs:Hid (dW w p s))(ht:Hid (dW w q t))(b:Bool)(hb:Hid (b=decide (s=t))) :
  Calls Tryz.prog 190 #[Mj s p,Mj t q] w fun e w'=>e=.returned (.bool b)∧w.grownBy w' none:=by
 by_cases hlen:s.length=t.length
 ·have e0:((s.length:Int) != (t.length:Int))=false:=by simp;omega
  have HL:=hide hlen
  clear hlen
  go_enter Tryz.func190,Tryz.ntmps190
  go_wp2
  go_quiet (fail)
  go_wp2
  go_loopg [5,6] s.length (fun k v v' wr=>V8 b w k v v' wr)
  case atStart =>
   have hg:w.grownBy ((w.alloc (.cells #[.pointer p,.int .i64 (s.length:Int)] 132)).alloc (.cells #[.pointer q,.int .i64 (t.length:Int)] 132)) none:=lH (lH (World.grownBy.refl _ _) _) _
   refine ⟨?_,p,q,s,t,rfl,rfl,?_,?_,rfl,HL.out.symm,hb.out⟩
   ·exact ⟨rfl,rfl,rfl,hg.size,hg.block⟩
   ·exact hs.out.keep fun b _ hb=>(hg.block b (lt_of_block hb) (by simp)).trans hb
   ·exact ht.out.keep fun b _ hb=>(hg.block b (lt_of_block hb) (by simp)).trans hb
  case round =>
   obtain ⟨hg,p1,q1,s1,t1,rfl,rfl,hs1,ht1,hl1,hl2,hb1⟩:=hrel
   have HG:=hide hg
   have HB1:=hide hb1
   clear hg hb1 e0
   by_cases hpq:p1=q1
   ·subst hpq
    have HT:Hid (b=true):=by unfold Hid;rw [HB1.out,Mk hs1 ht1];simp
    have hnq:=V9 p1 wr
    clear hs1 ht1 hl1 hl2
    go_wp2
    go_ret
    rw [HT.out]
    exact ⟨rfl,HG.out⟩
   ·cases s1 with
    | nil =>
     exfalso
     obtain rfl:t1=[]:=List.eq_nil_of_length_eq_zero (by rw [hl2,← hl1];rfl)
     exact hpq ((show p1=none from hs1).trans (show q1=none from ht1).symm)
    | cons x s2 =>
     cases t1 with
     | nil=>exfalso;simp at hl1 hl2;omega
     | cons y t2 =>
      obtain ⟨bp,lp,rfl,hbp,hsp⟩:=hs1
      obtain ⟨bq,lq,rfl,hbq,vI⟩:=ht1
      have hnq:=Wd wr (fun e=>hpq (by rw [e])) hbp hbq
      obtain ⟨p0,p1⟩:=Ml hbp
      obtain ⟨q0,q1⟩:=Ml hbq
      have We:=hide hsp
      have sJ:=hide vI
      have bT:Hid (s2.length+1=gk∧t2.length+1=gk):=⟨by simpa using hl1,by simpa using hl2⟩
      clear hbp hbq hsp vI hpq hl1 hl2
      by_cases hxy:x=y
      ·have e1:(x != y)=false:=by simpa using hxy
       have HB2:Hid (b=decide (s2=t2)):=by unfold Hid;rw [HB1.out,hxy];simp
       clear hxy HB1
       go_wp2
       go_quiet (fail)
       go_wp2
       go_quiet (fail)
       go_wp2
       go_roundg s2.length
       case measure=>have:=bT.out;omega
       case rel =>
        refine ⟨⟨HG.out.os,HG.out.tape,HG.out.output,HG.out.size,HG.out.block⟩,lp,lq,s2,t2,rfl,rfl,We.out.keep fun _ _ h=>h,sJ.out.keep fun _ _ h=>h,rfl,by have:=bT.out;omega,HB2.out⟩
      ·have e1:(x != y)=true:=by simpa using hxy
       have HB2:Hid (b=false):=by unfold Hid;rw [HB1.out];simp [hxy]
       clear hxy HB1
       go_wp2
       go_quiet (fail)
       go_wp2
       go_ret
       rw [HB2.out]
       exact ⟨rfl,⟨HG.out.os,HG.out.tape,HG.out.output,HG.out.size,HG.out.block⟩⟩
 ·have e0:((s.length:Int) != (t.length:Int))=true:=by simp;omega
  have HB:Hid (b=false):=by unfold Hid;rw [hb.out];simp;intro e;exact hlen (by rw [e])
  go_enter Tryz.func190,Tryz.ntmps190
  go_wp2
  go_ret
  rw [HB.out]
  exact ⟨rfl,⟨rfl,rfl,rfl,by simp;omega,fun k hk _=>(Below.heap_alloc _ _ _ (by simp;omega)).trans (Below.heap_alloc _ _ _ hk)⟩⟩
abbrev qU (f:Vf.Fl):Value:=.agg #[aj f.a,aj f.b,aj f.c,aj f.d]
abbrev nD (f:Vf.Fl):Obj:=.cells #[aj f.a,aj f.b,aj f.c,aj f.d] 135 (0,0)
def mix (f g:Vf.Fl)(k:Nat):Vf.Fl:=⟨if 0 < k then f.a &&& g.a else f.a,if 1 < k then f.b &&& g.b else f.b,if 2 < k then f.c &&& g.c else f.c,if 3 < k then f.d &&& g.d else f.d⟩
structure Wh (f g:Vf.Fl) (w:World) (k:Nat) (W:World):Prop where
 le:k≤4
 l:W.heap[w.heap.size]?=some (nD (mix f g k))
 o:W.heap[w.heap.size+1]?=some (nD g)
 z:W.heap[w.heap.size+2]?=some (nD Vf.Fl.none)
 grown:w.grownBy W none
theorem jR {w:World}{N:Nat}{f:Vf.Fl}(h:w.heap[N]?=some (nD f)):w.cell? ⟨N,0,none⟩=some (aj f.a)∧w.cell? ⟨N,1,none⟩=some (aj f.b)∧w.cell? ⟨N,2,none⟩=some (aj f.c)∧w.cell? ⟨N,3,none⟩=some (aj f.d)∧w.frozen? ⟨N,0,none⟩=false∧w.frozen? ⟨N,1,none⟩=false∧w.frozen? ⟨N,2,none⟩=false∧w.frozen? ⟨N,3,none⟩=false:=by
 simp [World.cell?,World.frozen?,h]
theorem Bc (x y:BitVec 64):bits .and .u64 (x.toNat:Int) (y.toNat:Int)=((x &&& y).toNat:Int):=by
 have h1:=x.isLt
 have h2:=y.isLt
 rw [u64_and_nat x.toNat y.toNat (by omega) (by omega),BitVec.toNat_and]
theorem mo {w w':World}{N:Nat}(h:w.grownBy w' none)(hN:w.heap.size≤N)(o:Nat)(v:Value):w.grownBy (w'.setCell ⟨N,o,none⟩ v) none :=
 ⟨h.os,h.tape,h.output,by have:=h.size;simp [World.setCell];omega,fun k hk hne=>by
  rw [Below.heap_setCell _ ⟨N,o,none⟩ _ _ (by show k≠N;omega)]
  exact h.block k hk hne⟩
theorem Bd (w:World)(a b c:Obj):(((w.alloc a).alloc b).alloc c).heap[w.heap.size+2]?=some c:=by
 have e:((w.alloc a).alloc b).heap.size=w.heap.size+2:=by simp
 rw [← e]
 exact heap_alloc_new _ _
theorem Mo (f g:Vf.Fl)(w:World) :
  Calls Tryz.prog 191 #[qU f,qU g] w fun e w'=>e=.returned (qU (f.both g))∧w.grownBy w' none:=by
 go_enter Tryz.func191,Tryz.ntmps191
 go_wp2
 go_loopw [6] (fun v wr=>∃ k:Nat,v=.int .i64 k∧Wh f g w k wr) (fun v _=>4 - (intOf v).toNat)
 case atStart=>exact ⟨0,rfl,by omega,(Below.heap_alloc _ _ _ (by simp;omega)).trans ((Below.heap_alloc _ _ _ (by simp)).trans (heap_alloc_new _ _)),(Below.heap_alloc _ _ _ (by simp)).trans (by have:=heap_alloc_new (w.alloc (nD f)) (nD g);simpa using this),Bd _ _ _ _,lH (lH (lH (World.grownBy.refl _ _) _) _) _⟩
 case round =>
  obtain ⟨k,rfl,hA⟩:=hrel
  have HA:=hide hA
  have hk:=hA.le
  clear hA
  rcases (by omega:k=0∨k=1∨k=2∨k=3∨k=4) with rfl | rfl | rfl | rfl | rfl
  ·skip
   have c0:wr.cell? ⟨w.heap.size,0,none⟩=some (aj f.a):=(jR HA.out.l).1
   have c1:wr.cell? ⟨w.heap.size+1,0,none⟩=some (aj g.a):=(jR HA.out.o).1
   have z0:wr.frozen? ⟨w.heap.size,0,none⟩=false:=(jR HA.out.l).2.2.2.2.1
   have eb:=Bc f.a g.a
   go_wp2
   go_region
   all_goals
    go_wp2
    go_roundw
    case rel =>
     refine ⟨0+1,rfl,by omega,?_,?_,?_,sU (mo HA.out.grown (Nat.le_refl _) _ _)⟩
     ·show (wr.setCell ⟨w.heap.size,0,none⟩ (aj (f.a &&& g.a))).heap[w.heap.size]?=_
      simp only [World.setCell,Array.getElem?_modify,if_true,HA.out.l,Option.map_some]
      rfl
     ·show (wr.setCell ⟨w.heap.size,0,none⟩ (aj (f.a &&& g.a))).heap[w.heap.size+1]?=_
      rw [Below.heap_setCell _ ⟨w.heap.size,0,none⟩ _ _ (by show w.heap.size+1≠w.heap.size;omega)]
      exact HA.out.o
     ·show (wr.setCell ⟨w.heap.size,0,none⟩ (aj (f.a &&& g.a))).heap[w.heap.size+2]?=_
      rw [Below.heap_setCell _ ⟨w.heap.size,0,none⟩ _ _ (by show w.heap.size+2≠w.heap.size;omega)]
      exact HA.out.z
    case measure=>simp [intOf]
  ·skip
   have c0:wr.cell? ⟨w.heap.size,1,none⟩=some (aj f.b):=(jR HA.out.l).2.1
   have c1:wr.cell? ⟨w.heap.size+1,1,none⟩=some (aj g.b):=(jR HA.out.o).2.1
   have z0:wr.frozen? ⟨w.heap.size,1,none⟩=false:=(jR HA.out.l).2.2.2.2.2.1
   have eb:=Bc f.b g.b
   go_wp2
   go_region
   all_goals
    go_wp2
    go_roundw
    case rel =>
     refine ⟨1+1,rfl,by omega,?_,?_,?_,sU (mo HA.out.grown (Nat.le_refl _) _ _)⟩
     ·show (wr.setCell ⟨w.heap.size,1,none⟩ (aj (f.b &&& g.b))).heap[w.heap.size]?=_
      simp only [World.setCell,Array.getElem?_modify,if_true,HA.out.l,Option.map_some]
      rfl
     ·show (wr.setCell ⟨w.heap.size,1,none⟩ (aj (f.b &&& g.b))).heap[w.heap.size+1]?=_
      rw [Below.heap_setCell _ ⟨w.heap.size,1,none⟩ _ _ (by show w.heap.size+1≠w.heap.size;omega)]
      exact HA.out.o
     ·show (wr.setCell ⟨w.heap.size,1,none⟩ (aj (f.b &&& g.b))).heap[w.heap.size+2]?=_
      rw [Below.heap_setCell _ ⟨w.heap.size,1,none⟩ _ _ (by show w.heap.size+2≠w.heap.size;omega)]
      exact HA.out.z
    case measure=>simp [intOf]
  ·skip
   have c0:wr.cell? ⟨w.heap.size,2,none⟩=some (aj f.c):=(jR HA.out.l).2.2.1
   have c1:wr.cell? ⟨w.heap.size+1,2,none⟩=some (aj g.c):=(jR HA.out.o).2.2.1
   have z0:wr.frozen? ⟨w.heap.size,2,none⟩=false:=(jR HA.out.l).2.2.2.2.2.2.1
   have eb:=Bc f.c g.c
   go_wp2
   go_region
   all_goals
    go_wp2
    go_roundw
    case rel =>
     refine ⟨2+1,rfl,by omega,?_,?_,?_,sU (mo HA.out.grown (Nat.le_refl _) _ _)⟩
     ·show (wr.setCell ⟨w.heap.size,2,none⟩ (aj (f.c &&& g.c))).heap[w.heap.size]?=_
      simp only [World.setCell,Array.getElem?_modify,if_true,HA.out.l,Option.map_some]
      rfl
     ·show (wr.setCell ⟨w.heap.size,2,none⟩ (aj (f.c &&& g.c))).heap[w.heap.size+1]?=_
      rw [Below.heap_setCell _ ⟨w.heap.size,2,none⟩ _ _ (by show w.heap.size+1≠w.heap.size;omega)]
      exact HA.out.o
     ·show (wr.setCell ⟨w.heap.size,2,none⟩ (aj (f.c &&& g.c))).heap[w.heap.size+2]?=_
      rw [Below.heap_setCell _ ⟨w.heap.size,2,none⟩ _ _ (by show w.heap.size+2≠w.heap.size;omega)]
      exact HA.out.z
    case measure=>simp [intOf]
  ·skip
   have c0:wr.cell? ⟨w.heap.size,3,none⟩=some (aj f.d):=(jR HA.out.l).2.2.2.1
   have c1:wr.cell? ⟨w.heap.size+1,3,none⟩=some (aj g.d):=(jR HA.out.o).2.2.2.1
   have z0:wr.frozen? ⟨w.heap.size,3,none⟩=false:=(jR HA.out.l).2.2.2.2.2.2.2
   have eb:=Bc f.d g.d
   go_wp2
   go_region
   all_goals
    go_wp2
    go_roundw
    case rel =>
     refine ⟨3+1,rfl,by omega,?_,?_,?_,sU (mo HA.out.grown (Nat.le_refl _) _ _)⟩
     ·show (wr.setCell ⟨w.heap.size,3,none⟩ (aj (f.d &&& g.d))).heap[w.heap.size]?=_
      simp only [World.setCell,Array.getElem?_modify,if_true,HA.out.l,Option.map_some]
      rfl
     ·show (wr.setCell ⟨w.heap.size,3,none⟩ (aj (f.d &&& g.d))).heap[w.heap.size+1]?=_
      rw [Below.heap_setCell _ ⟨w.heap.size,3,none⟩ _ _ (by show w.heap.size+1≠w.heap.size;omega)]
      exact HA.out.o
     ·show (wr.setCell ⟨w.heap.size,3,none⟩ (aj (f.d &&& g.d))).heap[w.heap.size+2]?=_
      rw [Below.heap_setCell _ ⟨w.heap.size,3,none⟩ _ _ (by show w.heap.size+2≠w.heap.size;omega)]
      exact HA.out.z
    case measure=>simp [intOf]
  ·obtain ⟨a0,a1,a2,a3,_⟩:=jR HA.out.l
   obtain ⟨z0,z1,z2,z3,y0,y1,y2,y3⟩:=jR HA.out.z
   go_wp2
   refine bodyPost_ret (v:=qU (f.both g)) (by simp [results,Tryz.results191,go_sem,z0,z1,z2,z3];exact ⟨rfl,rfl,rfl,rfl⟩) rfl ?_
   exact ⟨rfl,mo (mo (mo (mo HA.out.grown (by omega) _ _) (by omega) _ _) (by omega) _ _) (by omega) _ _⟩
def KC (w w':World):Prop:=∀ (b:Nat) (cs:Array Value),w.heap[b]?=some (Obj.cells cs 286 (0,0))→w'.heap[b]?=some (Obj.cells cs 286 (0,0))
theorem KC.trans {a b c:World}(h:KC a b)(k:KC b c):KC a c:=fun x cs hx=>k x cs (h x cs hx)
theorem KC.refl (w:World):KC w w:=fun _ _ h=>h
theorem EW {w w':World}{r:Option Nat}(hg:w.grownBy w' r)(hne:∀ (b:Nat) (cs:Array Value),w.heap[b]?=some (Obj.cells cs 286 (0,0))→r≠some b):KC w w':=fun b cs hb=>(hg.block b (lt_of_block hb) (fun e=>hne b cs hb e.symm)).trans hb
theorem EX (w:World)(o:Obj):KC w (w.alloc o):=fun _ _ hb=>(Below.heap_alloc _ _ _ (lt_of_block hb)).trans hb
theorem EY {w w':World}{F:Nat}{o:Obj}(hg:w.grownBy w' (some F))(ho:w.heap[F]?=some o)(ht:∀ cs,o≠Obj.cells cs 286 (0,0)):KC w w':=EW hg fun b cs hb e=>by
 simp at e
 subst e
 rw [ho] at hb
 simp at hb
 exact ht _ hb
structure WF (c:FC) (B F:Nat) (w:World) (k:Vf.Kn) (n:Int) (s:Vf.S):Prop where
 env:Env c B F w
 mB:B≤c.M
 fl:∃ top rv,aA c w F top k.st k.fl n rv∧QR w B rv s.row
 come:eT w c.M s.come
theorem Wj {c:FC}{w:World}{F:Nat}{top:Option Addr}{st:List Int}{f:Vf.Fl}{n:Int}{row row':Value}(h:w.heap[F]?=some (gQ c top st f n row)) :
  (w.setCell ⟨F,15,none⟩ row').heap[F]?=some (gQ c top st f n row'):=by
 simp only [World.setCell,Array.getElem?_modify,if_true,h,Option.map_some]
 rfl
theorem eT.ne {c:FC}{w:World}{M F:Nat}{come:Nat→Option Vf.Kn}{top:Option Addr}{st:List Int}{f:Vf.Fl}{n:Int}{row:Value}(h:eT w M come)(hF:w.heap[F]?=some (gQ c top st f n row)):M≠F:=by
 obtain ⟨es,cl,h1,_⟩:=h
 intro e
 subst e
 rw [h1] at hF
 cases hF
theorem WF.own {c:FC}{B F:Nat}{w w':World}{k k':Vf.Kn}{n n':Int}{s:Vf.S}{top:Option Addr}{rv:Value}(h:WF c B F w k n s)(hg:w.grownBy w' (some F))(hF:aA c w' F top k'.st k'.fl n' rv)(iR:∀ top rv',aA c w F top k.st k.fl n rv'→rv=rv'):WF c B F w' k' n' s:=by
 obtain ⟨env,mB,⟨Mg,rv0,jr,hq⟩,come⟩:=h
 obtain rfl:=iR _ _ jr
 have hne:=come.ne jr.blk
 have kc:=EY hg jr.blk (fun cs e=>by cases e)
 exact ⟨env.grown hg,mB,⟨top,rv,hF,hq.keep fun j hj=>hg.block j (hq.lt j hj).2 (fun e=>hq.ty jr.blk (fun cs fr e2=>by cases e2) (by rw [hj,← e]))⟩,come.keep (hg.block _ come.lt (by simp;omega)) kc⟩
abbrev iy (k:Vf.Kn) (top:Option Addr):Obj:=.cells #[.pointer top,.int .i64 (k.st.length:Int),aj k.fl.a,aj k.fl.b,aj k.fl.c,aj k.fl.d] 137 (0,0)
theorem below_grown {B:Nat}{w w':World}{r:Option Nat}(h:w.grownBy w' r)(hB:B≤w.heap.size)(hr:∀ k,r=some k→B≤k):Below B w w':=(Below.refl B w).grown h hB hr
theorem eT.drew {w:World}{M:Nat}{come:Nat→Option Vf.Kn}(h:eT w M come):eT w.drew M come:=h.keep rfl (fun _ _ hb=>hb)
theorem eT.alloc {w:World}{M:Nat}{come:Nat→Option Vf.Kn}(h:eT w M come)(o:Obj):eT (w.alloc o) M come:=h.keep (Below.heap_alloc _ _ _ h.lt) (EX _ _)
theorem dW.drew {w:World}{a:Option Addr}{st:List Int}(h:dW w a st):dW w.drew a st:=h.keep fun _ _ hb=>hb
theorem Wm {c:FC}{B F:Nat}{w w2:World}{k:Vf.Kn}{n:Int}{s:Vf.S}{top:Option Addr}{rv:Value}{o:Obj}(hF:aA c w F top k.st k.fl n rv)(hq:QR w B rv s.row)(hC:eT w c.M s.come)(hg:(w.alloc o).drew.grownBy w2 (some c.M)):aA c w2 F top k.st k.fl n rv∧QR w2 B rv s.row∧KC w w2:=by
 have hne:=hC.ne hF.blk
 have hkc:KC w w2:=KC.trans (EX w o) (EW (iH hg) fun b cs hb e=>by
  simp at e
  subst e
  obtain ⟨es,cl,h1,_⟩:=hC.alloc o
  have h2:(w.alloc o).heap[c.M]?=some (Obj.cells cs 286 (0,0)):=hb
  rw [h1] at h2
  cases h2)
 have blk:∀ j,j < w.heap.size→j≠c.M→w2.heap[j]?=w.heap[j]?:=fun j hj hjm=>(hg.block j (by show j < (w.alloc o).heap.size;simp;omega) (by simp;omega)).trans (Below.heap_alloc _ _ _ hj)
 refine ⟨⟨(blk F (lt_of_block hF.blk) (by omega)).trans hF.blk,hF.sk.keep hkc⟩,hq.keep fun j hj=>blk j (hq.lt j hj).2 (fun e=>?_),hkc⟩
 obtain ⟨es,cl,h1,_⟩:=hC
 subst e
 exact hq.ty h1 (fun cs fr e=>by cases e) hj
theorem Wn {c:FC}{B F:Nat}{w w2 w4:World}{k kn:Vf.Kn}{n:Int}{s:Vf.S}{top:Option Addr}{rv v':Value}{o2 o:Obj}{tz:Nat}(h:WF c B F w k n s)(jr:aA c w F top k.st k.fl n rv)
  (hF:aA c w2 F top k.st k.fl n rv) (hq:QR w2 B rv s.row) (hC:eT w2 c.M (s.note tz kn).come) (hg2:(w.alloc o2).drew.grownBy w2 (some c.M)) (hg:(w2.alloc o).grownBy w4 rv.ownBlock) (hq4:QR w4 B v' (s.row ++ [tz])) :
  WF c B F (w4.setCell ⟨F,15,none⟩ v') k n (s.note tz kn)∧Below B w (w4.setCell ⟨F,15,none⟩ v'):=by
 have hlt:=lt_of_block hF.blk
 have ho:rv.ownBlock≠some F:=hq.ty hF.blk (fun cs fr e=>by cases e)
 have blk:∀ j,j < w2.heap.size→rv.ownBlock≠some j→w4.heap[j]?=w2.heap[j]?:=fun j hj h1=>(hg.block j (by simp;omega) (fun e=>h1 e.symm)).trans (Below.heap_alloc _ _ _ hj)
 have Mq:KC w2 w4:=fun b cs hb=>(blk b (lt_of_block hb) (hq.ty hb (fun cs' fr e=>by cases e))).trans hb
 have mO:w4.heap[F]?=some (gQ c top k.st k.fl n rv):=(blk F hlt ho).trans hF.blk
 have Mr:KC w4 (w4.setCell ⟨F,15,none⟩ v'):=fun b cs hb=>(Below.heap_setCell _ ⟨F,15,none⟩ _ _ (fun e=>by
  have e1:b=F:=e
  subst e1
  rw [mO] at hb
  cases hb)).trans hb
 have hMF:=hC.ne hF.blk
 have Wo:w4.heap[c.M]?=w2.heap[c.M]?:=blk c.M hC.lt (by
  obtain ⟨es,cl,h1,_⟩:=hC
  exact hq.ty h1 (fun cs fr e=>by cases e))
 have hsz:=h.env.lt
 have hB:B≤w.heap.size:=by have:=h.env.base;omega
 have hb2:Below B w w2:=((Below.refl B w).alloc hB o2).trans (by have:=below_grown hg2 (by show B≤(w.alloc o2).heap.size;simp;omega) (fun j e=>by cases e;exact h.mB);exact ⟨this.os,this.tape,this.output,this.size,this.block⟩)
 have hb4:Below B w2 w4:=((Below.refl B w2).alloc (by have:=hb2.size;omega) o).trans (below_grown hg (by have:=hb2.size;simp;omega) (fun j e=>(hq.lt j e).1))
 have hb5:Below B w4 (w4.setCell ⟨F,15,none⟩ v'):=(Below.refl B w4).setCell (p:=⟨F,15,none⟩) h.env.base _
 have hall:=(hb2.trans hb4).trans hb5
 refine ⟨⟨⟨h.env.md.low (fun j hj=>hall.block j hj),h.env.un.low (fun j hj=>hall.block j hj),h.env.base,?_⟩,h.mB,⟨top,v',⟨Wj mO,hF.sk.keep (Mq.trans Mr)⟩,hq4.keep fun j hj=>Below.heap_setCell _ ⟨F,15,none⟩ _ _ (fun e=>?_)⟩,hC.keep ((Below.heap_setCell _ ⟨F,15,none⟩ _ _ (by show c.M≠F;omega)).trans Wo) (Mq.trans Mr)⟩,hall⟩
 ·have:=lt_of_block mO
  simp [World.setCell]
  omega
 ·have e1:j=F:=e
  subst e1
  exact hq4.ty mO (fun cs fr e=>by cases e) hj
theorem EZ (W:World)(u:Value)(t:TypeId):∀ j u',[u][j]?=some u'→(W.alloc (.cells #[u] t)).cell? ((⟨W.heap.size,0,none⟩:Addr).add j)=some u'
 | 0,u',h=>by simp at h;subst h;simp [Addr.add]
 | j+1,u',h=>by simp at h
theorem E8 (c:FC)(B F:Nat)(k kn:Vf.Kn)(n:Int)(s:Vf.S)(tz:Nat)(dh:Option Addr)(w:World)(h:Hid (WF c B F w k n s))(hs:Hid (dW w dh kn.st))(hn:s.row.length≤100000000) :
  Calls Tryz.prog 98 #[.pointer (some ⟨F,0,none⟩),.int .i64 (tz:Int),nC kn dh] w fun e w'=>e=.returned (.tuple #[])∧WF c B F w' k n (s.note tz kn)∧Below B w w':=by
 obtain ⟨top,rv,hF,hq⟩:=h.out.fl
 have hlt:=h.out.env.lt
 have hB0:=h.out.env.base
 have gI:eT (w.alloc (iy kn dh)).drew c.M s.come:=(h.out.come.alloc _).drew
 obtain ⟨w2,hup,hC2,hg2⟩:=V5 (k:=tz) gI ((hs.out.keep (EX w (iy kn dh))).drew)
 obtain ⟨hF2,hq2,hk2⟩:=Wm hF hq h.out.come hg2
 have c16:=(eZ (hF.alloc (iy kn dh)).blk).2.2.1
 obtain ⟨d14,d15,d16,E9,Ms⟩:=eZ hF2.blk
 have hz2:=hg2.size
 have hz2':w.heap.size+1≤w2.heap.size:=by simpa using hz2
 have ho:rv.ownBlock≠some F:=hq2.ty hF2.blk (fun cs fr e=>by cases e)
 have HO:=hide ho
 have HF:=hide hF
 have bO:=hide hF2
 have yo:=hide hq2
 have xH:=hide hC2
 have HG2:=hide hg2
 obtain ⟨ar,cr,iR⟩:=hq2.form
 subst iR
 clear hF hq gI hF2 hq2 hk2 hC2 hg2 hz2 d14 d16 E9 ho
 go_enter Tryz.func98,Tryz.ntmps98
 go_wp2
 go_region
 all_goals
  go_wp2_with (at_builtin;refine ES rfl _ _ rfl B _ s.row tz rfl (yo.out.alloc _) ⟨w2.heap.size,0,none⟩ rfl (EZ _ _ _) hn (by simp;omega) ?_;intro v' w4 hq4 hg4;obtain ⟨a4,c4,hv4⟩:=hq4.form;obtain ⟨L4,hL4⟩:∃ L4,L4=(s.row ++ [tz]).length:=⟨_,rfl⟩;rw [← hL4] at hv4;subst hv4;have HE:=hide (Wn (kn:=kn) h.out HF.out bO.out yo.out xH.out HG2.out hg4 hq4);have hb4:w4.heap[F]?=some (gQ c top k.st k.fl n (.slice ar s.row.length cr)):=((hg4.block F (by simp;omega) (fun e=>HO.out e.symm)).trans (Below.heap_alloc _ _ _ (by omega))).trans bO.out.blk;have b15:=(eZ hb4).2.1;have Mt:=(eZ hb4).2.2.2.2;clear hq4 hg4 hb4 hL4)
  go_wp2
  go_end0
  exact ⟨rfl,HE.out⟩
theorem Fa {a b:World}{M:Nat}(h:a.grownBy b none):a.grownBy b (some M):=⟨h.os,h.tape,h.output,h.size,fun k hk _=>h.block k hk (by simp)⟩
theorem Fb {B M:Nat}{w w':World}(h:w.grownBy w' (some M))(hM:B≤M)(hB:B≤w.heap.size):Low B w w':=fun k hk=>h.block k (by omega) (by simp;omega)
theorem sV {a b c:World}{T N:Nat}(h:a.grownBy b (some T))(k:b.grownBy c (some N))(hN:a.heap.size≤N∨N=T):a.grownBy c (some T):=h.andThen k (fun j e=>by cases e;rcases hN with h | h;exact .inl h;exact .inr (by rw [h]))
theorem sW {a b c:World}{T:Nat}(h:a.grownBy b (some T))(k:b.grownBy c none):a.grownBy c (some T):=h.andThen k (fun j e=>by cases e)
theorem dO.keep {w w':World}{M:Nat}{l:LL}(h:dO w M l)(hk:w'.heap[M]?=w.heap[M]?):dO w' M l:=hk.trans h
theorem dO.alloc {w:World}{M:Nat}{l:LL}(h:dO w M l)(o:Obj):dO (w.alloc o) M l:=h.keep (Below.heap_alloc _ _ _ (lt_of_block h))
theorem dO.lt {w:World}{M:Nat}{l:LL}(h:dO w M l):M < w.heap.size:=lt_of_block h
abbrev Fe (k:Lk):Obj:=.cells #[.int .i64 k.1,.int .i64 k.2] 143 (0,0)
theorem Wp {w:World}{N:Nat}{k:Lk}(h:w.heap[N]?=some (Fe k)):w.cell? ⟨N,0,none⟩=some (.int .i64 k.1)∧w.cell? ⟨N,1,none⟩=some (.int .i64 k.2):=by simp [World.cell?,h]
theorem QR.at {w:World}{B i x:Nat}{v:Value}{ws:List Nat}(h:QR w B v ws)(hx:ws[i]?=some x):∃ g off cap,v=.slice (some ⟨g,off,none⟩) ws.length cap∧g < w.heap.size∧w.cell? ⟨g,off+i,none⟩=some (.int .i64 (x:Int)):=by
 rcases h with ⟨_,rfl⟩ | ⟨g,off,cap,cs,rfl,_,hh,h1,h2,h3⟩
 ·simp at hx
 ·exact ⟨g,off,cap,rfl,lt_of_block hh,by simp [World.cell?,hh,h3 i x hx]⟩
def iV (w:World)(M:Nat)(f:Int→Int):Prop :=
 ∃ es cl,w.heap[M]?=some (.map es cl)∧Keyed' es.toList∧∀ k:Nat,(f k=0∧gV es.toList k 0=some none)∨∃ i,gV es.toList k 0=some (some (i,.int .i64 (f k)))
theorem iV.lt {w:World}{M:Nat}{f:Int→Int}(h:iV w M f):M < w.heap.size:=by
 obtain ⟨es,cl,h1,_⟩:=h
 exact lt_of_block h1
theorem iV.keep {w w':World}{M:Nat}{f:Int→Int}(h:iV w M f)(hM:w'.heap[M]?=w.heap[M]?):iV w' M f:=by
 obtain ⟨es,cl,h1,h2⟩:=h
 exact ⟨es,cl,hM.trans h1,h2⟩
theorem iV.new (w:World):iV (w.alloc (.map #[] 0)) w.heap.size (fun _=>0):=⟨#[],0,heap_alloc_new w _,fun _ h=>(by cases h),fun _=>.inl ⟨rfl,rfl⟩⟩
theorem iV.obj {w:World}{M:Nat}{f:Int→Int}(h:iV w M f):∃ o,w.heap[M]?=some o∧∀ cs fr,o≠.cells cs 3 fr:=by
 obtain ⟨es,cl,h1,h2⟩:=h
 exact ⟨_,h1,fun _ _ e=>by cases e⟩
theorem Mw {w:World}{M:Nat}{f:Int→Int}(h:iV w M f)(k:Nat):(Instr.lookup 190 (.map (some M)) (.int .i64 (k:Int)) false).run Tryz.prog w=.ok (.int .i64 (f k)) w:=by
 obtain ⟨es,cl,h1,h2,h3⟩:=h
 have hg:(getObj M).run Tryz.prog w=.ok (.map es cl) w:=MapKept.run_getObj_map h1
 have hu:=run_underlying (w:=w) Tryz.underlying190
 have hzv:(zeroValue 3).run Tryz.prog w=.ok (.int .i64 0) w:=by kernel_rfl
 rcases h3 k with ⟨h4,h5⟩ | ⟨i,h5⟩
 ·have hkk:=MapKept.run_findKey (P:=Tryz.prog) (w:=w) (kt:=3) Tryz.underlying3 h5
  simp [Instr.lookup,hu,hg,p9,hkk,hzv,h4]
 ·have hkk:=MapKept.run_findKey (P:=Tryz.prog) (w:=w) (kt:=3) Tryz.underlying3 h5
  simp [Instr.lookup,hu,hg,p9,hkk]
theorem Mx {w:World}{M:Nat}{f:Int→Int}(h:iV w M f)(k:Nat)(v:Int) :
  ∃ w',(Instr.mapUpdate 190 (.map (some M)) (.int .i64 (k:Int)) (.int .i64 v)).run Tryz.prog w=.ok () w'∧iV w' M (fun q=>if q=(k:Int) then v else f q)∧w.grownBy w' (some M):=by
 obtain ⟨es,cl,h1,h2,h3⟩:=h
 have hg:(getObj M).run Tryz.prog w=.ok (.map es cl) w:=MapKept.run_getObj_map h1
 have hu:=run_underlying (w:=w) Tryz.underlying190
 have fin:∀ es' cl',Keyed' es'.toList→(∀ j:Nat,j≠k→gV es'.toList j 0=gV es.toList j 0)→(∃ i,gV es'.toList k 0=some (some (i,.int .i64 v))) →
   iV { w with heap:=w.heap.setIfInBounds M (.map es' cl') } M (fun q=>if q=(k:Int) then v else f q)∧w.grownBy { w with heap:=w.heap.setIfInBounds M (.map es' cl') } (some M):=by
  intro es' cl' hK hF hk
  obtain ⟨m1,m2⟩:=MapKept.heap_set (o':=.map es' cl') h1
  refine ⟨⟨es',cl',m1,hK,fun j=>?_⟩,⟨rfl,rfl,rfl,by simp,fun b _ hne=>m2 b (fun e=>hne (by rw [e]))⟩⟩
  by_cases hjk:j=k
  ·subst hjk
   simp only [if_true]
   exact .inr hk
  ·have e:¬ (j:Int)=(k:Int):=by omega
   simp only [hF j hjk,if_neg e]
   exact h3 j
 rcases h3 k with ⟨_,hf⟩ | ⟨i,hf⟩
 ·have hkk:=MapKept.run_findKey (P:=Tryz.prog) (w:=w) (kt:=3) Tryz.underlying3 hf
  have hset:=MapKept.run_setObj_map (P:=Tryz.prog) (.map (es.push { key:=.int .i64 (k:Int),val:=.int .i64 v,born:=cl }) (cl+1)) h1
  refine ⟨_,by simp [Instr.mapUpdate,hu,hg,p9,hkk,hset];rfl,fin _ _ (by rw [Array.toList_push];exact h2.push _ (j:=k) rfl) (fun j hj=>?_) ?_⟩
  ·rw [Array.toList_push,Ba (j:=k) rfl _ _ h2]
   cases hx:gV es.toList j 0 with
   | none=>rfl
   | some x =>
    cases x with
    | none=>simp [hj]
    | some y=>rfl
  ·rw [Array.toList_push,Ba (j:=k) rfl _ _ h2,hf]
   simp
 ·have hkk:=MapKept.run_findKey (P:=Tryz.prog) (w:=w) (kt:=3) Tryz.underlying3 hf
  obtain ⟨j0,e0,hj0,he0,EP,hev⟩:=Bb es.toList 0 i _ h2 hf
  obtain rfl:i=j0:=by omega
  have hes:es[i]?=some e0:=by simpa using he0
  have hst:=MapKept.run_keyThatStays (P:=Tryz.prog) (w:=w) (d:=.int .i64) (k:=.int .i64 (k:Int)) (by simp [MapKept.IsKey])
  have hset:=MapKept.run_setObj_map (P:=Tryz.prog) (.map (es.modify i fun e=>{ e with key:=.int .i64 (k:Int),val:=.int .i64 v }) cl) h1
  have hm:=fun k'=>EO (k:=k) (v:=.int .i64 v) es.toList 0 i (.int .i64 (f k)) h2 (by rw [Nat.zero_add];exact hf) k'
  refine ⟨_,by simp [Instr.mapUpdate,hu,hg,p9,hkk,hes,EP,hst,hset];rfl,fin _ _ (by rw [Array.toList_modify];exact h2.modify i) (fun j hj=>?_) ?_⟩
  ·rw [Array.toList_modify,hm j,if_neg hj]
  ·rw [Array.toList_modify,hm k,if_pos rfl]
   exact ⟨_,rfl⟩
abbrev vN (m:Vf.Md) (ab au:Option Addr) (cb cu:Nat):Obj:=.cells #[.slice ab m.boxes.length cb,.slice au m.units.length cu] 38 (0,0)
structure Ff (g:FuncId) (ah:Array Value) (N M:Nat) (I:List Lk→World→Prop):Prop where
 keep:∀ ts w w',I ts w→(∀ k,k < N→w'.heap[k]?=w.heap[k]?)→I ts w'
 call:∀ (ts:List Lk) (op a:Int) (w:World),I ts w→ts.length≤130000→Calls Tryz.prog g (#[.int .i64 op,.int .i64 a] ++ ah) w fun e w'=>e=.returned (.tuple #[])∧I (ts ++ [(op,a)]) w'∧w.grownBy w' (some M)
structure jy (m:Vf.Md) (ab au:Option Addr) (cb cu n M:Nat) (w:World) (I:List Lk→World→Prop) (i j:Nat) (v:Value) (R:List Nat) (ts:List Lk) (f:Int→Int) (W:World):Prop where
 wk:Vf.fI m n i j R ts f
 row:QR W w.heap.size v R
 met:iV W (w.heap.size+1+1) f
 tell:I ts W
 md:W.heap[w.heap.size]?=some (vN m ab au cb cu)
 grown:w.grownBy W (some M)
theorem Wq {w:World}{N:Nat}{m:Vf.Md}{ab au:Option Addr}{cb cu:Nat}(h:w.heap[N]?=some (vN m ab au cb cu)):w.cell? ⟨N,0,none⟩=some (.slice ab m.boxes.length cb)∧w.cell? ⟨N,1,none⟩=some (.slice au m.units.length cu):=by simp [World.cell?,h]
theorem jy.step {m:Vf.Md}{ab au:Option Addr}{cb cu n M i j i' j':Nat}{w W W2 W3:World}{I:List Lk→World→Prop}{v:Value}{R:List Nat}{ts ts':List Lk}{f f':Int→Int}{t:Option Nat}(h:jy m ab au cb cu n M w I i j v R ts f W)(h2:W.grownBy W2 none)(h3:W2.grownBy W3 t)(ht:t=some M∨t=some (w.heap.size+1+1))(hM:M < w.heap.size)
  (hw:Vf.fI m n i' j' R ts' f') (hm:iV W3 (w.heap.size+1+1) f') (hI:I ts' W3):jy m ab au cb cu n M w I i' j' v R ts' f' W3:=by
 have hz:=h2.size
 have hg2:=sW h.grown h2
 have hgz:=hg2.size
 obtain ⟨o,ho,hno⟩:=h.met.obj
 have key:∀ k,w.heap.size≤k→k < W.heap.size→k≠w.heap.size+1+1→W3.heap[k]?=W.heap[k]?:=fun k hk hk2 hk3=>(h3.block k (by omega) (by rcases ht with rfl | rfl <;> simp <;> omega)).trans (h2.block k hk2 (by simp))
 refine ⟨hw,h.row.keep fun k hk=>key k (h.row.lt k hk).1 (h.row.lt k hk).2 (fun e=>h.row.ty ho hno (e ▸ hk)),hm,hI,(key _ (Nat.le_refl _) (lt_of_block h.md) (by omega)).trans h.md,?_⟩
 rcases ht with rfl | rfl
 ·exact sV hg2 h3 (.inr rfl)
 ·exact sV hg2 h3 (.inl (by omega))
theorem jy.more {m:Vf.Md}{ab au:Option Addr}{cb cu n M i j i' j':Nat}{w W W3 W4:World}{I:List Lk→World→Prop}{g:FuncId}{ah:Array Value}{v v':Value}{R R':List Nat}{ts:List Lk}{f f':Int→Int}(h:jy m ab au cb cu n M w I i j v R ts f W)(hT:Ff g ah w.heap.size M I)(h3:W.grownBy W3 (some (w.heap.size+1+1)))(h4:W3.grownBy W4 v.ownBlock)(hq3:QR W3 w.heap.size v R)
  (hw:Vf.fI m n i' j' R' ts f') (hm:iV W3 (w.heap.size+1+1) f') (hq:QR W4 w.heap.size v' R'):jy m ab au cb cu n M w I i' j' v' R' ts f' W4:=by
 have hz:=h3.size
 have hgz:=h.grown.size
 obtain ⟨o,ho,hno⟩:=hm.obj
 have hb3:W3.heap[w.heap.size]?=some (vN m ab au cb cu):=(h3.block _ (lt_of_block h.md) (by simp;omega)).trans h.md
 have hn1:=hq3.ty ho hno
 have hn2:=hq3.ty hb3 (fun cs fr e=>by cases e)
 refine ⟨hw,hq,hm.keep (h4.block _ hm.lt (fun e=>hn1 e.symm)),hT.keep _ _ _ h.tell (fun k hk=>(h4.block k (by omega) (fun e=>?_)).trans (h3.block k (by omega) (by simp;omega))),(h4.block _ (lt_of_block hb3) (fun e=>hn2 e.symm)).trans hb3,?_⟩
 ·have:=(hq3.lt k e.symm).1
  omega
 ·exact (sV h.grown h3 (.inl (by omega))).andThen h4 (fun k e=>.inl (hq3.lt k e).1)
end Go.Proofs.YthffafaoobpedaaGreatDoor
