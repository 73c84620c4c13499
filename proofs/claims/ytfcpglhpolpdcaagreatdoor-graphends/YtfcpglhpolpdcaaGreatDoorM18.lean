/- The walk of words. -/
import Derived.Test.YtfcpglhpolpdcaaGreatDoorM17
set_option maxRecDepth 100000
set_option maxHeartbeats 1000000
namespace Go.Proofs.YtfcpglhpolpdcaaGreatDoor.Mb
open Go.RowKit
theorem BX.lt {w:World}{S g:Nat}{ws:List Int}{f n:Nat}(h:BX w S g ws f n):S<w.heap.size∧g<w.heap.size:=by
 obtain⟨cs,hc,_⟩:=h.row;exact⟨lt_of_block h.blk,lt_of_block hc⟩
theorem YQ {P:Program}{ops:Array Oper}{o:Oper}{a:Act}{w:World}{K:Act→World→Prop}{Q:Exit→Act→World→Prop}{E:Prop}(hgd:o.guard=none)(s x:Operand)(t:TypeId)
  (ho:o.op=.call { callee:=.builtin .append,args:=#[s,x],argTypes:=#[t,t] })
  (base:Nat) (e:TypeId) (i:TypeInfo) (z:Value) (size bytes:Nat) (ht:P.underlying t=some (.slice e)) (hi:P.info? e=some i) (hz:i.zero=some z)
  (hsize:i.size=size) (hby:i.bytes=bytes) (hzs:z.cells.size=size) (hsz:0<size)
  (v:Value) (n:Nat) (xs:List Value) (hs:a.eval s=v) (hown:w.ownsRow base e size v n xs)
  (b2:Nat) (vx:Value) (m:Nat) (news:List Value) (hx:a.eval x=vx) (hown2:w.ownsRow b2 e size vx m news) (h1:∀ u ∈ news,u.oneCell'=true)
  (h63:n+m≤maxLen) (hbytes:(n+m) * bytes≤140737488355328) (hbase:base≤w.heap.size)
  (h:∀ v' w',w'.ownsRow base e size v' (n+m) (xs++news)→w.grownBy w' v.ownBlock→K (a.put o.dst v') w') :
  if Region.wanted o (yielded ops a.tmps)=true then Oper.wp P o a w K Q else E:=by
 have hw:Region.wanted o (yielded ops a.tmps)=true:=by simp[Region.wanted,hgd]
 rw[if_pos hw];have hl:=hown2.1;rcases hown2.2 with⟨rfl,rfl⟩ | ⟨g,cap,cur,rfl,r⟩
 ·have hrun:=run_append_owned_none (P:=P) (w:=w) base t o.type e i size ht hi v n xs hown
  obtain rfl:news=[]:=List.eq_nil_of_length_eq_zero (by simpa using hl);unfold Oper.wp;simp[execOp,ho,resolve,invoke,builtin,hs,hx,hrun,Result.andThen];exact h v w (by simpa using hown) (World.grownBy.refl _ _)
 ·exact wp_append_own w s x t ho base e i z size bytes ht hi hz hsize hby hzs hsz v n xs hs hown ⟨g,0,none⟩ m cap news hx hl (hown2.cells (g:=g) rfl) h1 h63 hbytes hbase (fun v' w' h2 h3 _=>h v' w' h2 h3)
theorem YR (X:World)(e:TypeId)(u:Value){M q:Nat}(hq:q=X.heap.size)(hM:M≤q):(X.alloc (.cells #[u] e)).ownsRow M e 1 (.slice (some ⟨q,0,none⟩) 1 1) 1 [u]:=by
 subst hq;exact⟨rfl,.inr ⟨X.heap.size,1,#[u],rfl,hM,heap_alloc_new X _,Nat.le_refl _,by unfold maxLen;omega,rfl,rfl⟩⟩
theorem ic {w:World}{B e size n k:Nat}{v:Value}{xs:List Value}{cs:Array Value}{t:TypeId}{fr:Nat × Nat}(h:w.ownsRow B e size v n xs)(hk:w.heap[k]?=some (.cells cs t fr))(ht:t≠e):v.ownBlock≠some k:=by
 rcases h.2 with⟨rfl,_⟩ | ⟨g',cap,cur,rfl,_,hh,_⟩
 ·simp[Value.ownBlock]
 ·intro e1
  simp only[Value.ownBlock,Option.some.injEq] at e1;subst e1;rw[hh] at hk;simp at hk;exact ht hk.2.1.symm
theorem lL {w:World}{B C e size n:Nat}{v:Value}{xs:List Value}(h:w.ownsRow C e size v n xs)(hB:B≤C):w.ownsRow B e size v n xs:=by
 refine⟨h.1,?_⟩;rcases h.2 with h2 | ⟨g,cap,cur,hv,hg,r⟩
 ·exact .inl h2
 ·exact .inr ⟨g,cap,cur,hv,Nat.le_trans hB hg,r⟩
theorem bA {w w':World}{B e size n:Nat}{v:Value}{xs:List Value}(h:w.ownsRow B e size v n xs)(hk:∀ k,v.ownBlock=some k→w'.heap[k]?=w.heap[k]?):w'.ownsRow B e size v n xs:=by
 refine⟨h.1,?_⟩;rcases h.2 with h2 | ⟨g',cap,cur,rfl,hB,hh,hr⟩
 ·exact .inl h2
 ·exact .inr ⟨g',cap,cur,rfl,hB,(hk g' rfl).trans hh,hr⟩
theorem DC (W:World)(u:Value)(t:TypeId):∀ j u',[u][j]?=some u'→(W.alloc (.cells #[u] t)).cell? ((⟨W.heap.size,0,none⟩:Addr).add j)=some u'
 | 0,u',h=>by simp at h;subst h;simp[Addr.add]
 | j+1,u',h=>by simp at h
theorem DD (x:Int):∀ u ∈ [Value.int .i64 x],u.oneCell'=true:=by intro u hu;simp at hu;subst hu;rfl
theorem BX.on {w w':World}{S g:Nat}{ws:List Int}{f n:Nat}(h:BX w S g ws f n)(hb:Below w.heap.size w w'):BX w' S g ws f n:=by
 obtain⟨hS,hg⟩:=h.lt;exact⟨(hb.block S hS).trans h.blk,RK.far (hb.block g hg) h.row,h.few,h.at',h.most⟩
theorem YS {ws:List Int}{k:Nat}{x:Int}(h:ws[k]?=some x):ints (ws.take (k+1))=ints (ws.take k)++[.int .i64 x]:=by
 obtain⟨hk,rfl⟩:=List.getElem?_eq_some_iff.1 h;unfold ints;rw[List.take_succ_eq_append_getElem hk,List.map_append];rfl
structure Af (w:World) (ws:List Int) (k:Nat) (v:Value) (W:World):Prop where
 le:k≤ws.length
 own:W.ownsRow w.heap.size 2 1 v k (ints (ws.take k))
 below:Below w.heap.size w W
theorem Af.next {w:World}{ws:List Int}{k:Nat}{v v':Value}{W w3 W2:World}{x:Int}(h:Af w ws k v W)(hx:ws[k]?=some x)(hW:Below W.heap.size W W2)(hown:w3.ownsRow w.heap.size 2 1 v' (k+1) (ints (ws.take k)++[.int .i64 x]))(hg:W2.grownBy w3 v.ownBlock):Af w ws (k+1) v' w3:=by
 refine⟨(List.getElem?_eq_some_iff.1 hx).1,by rw[YS hx];exact hown,?_⟩;have h1:=h.below.size;have h2:=hW.size;exact (h.below.trans (hW.mono h1)).grown hg (by omega) (fun j hj=>(h.own.lt j hj).1)
theorem Ou (S g:Nat)(ws:List Int)(f n:Nat)(w:World)(h:Hid (BX w S g ws f n)) :
  Calls Tryz.prog 39 #[.pointer (some ⟨S,0,none⟩)] w fun e w'=>∃ v,e=.returned v∧w'.ownsRow w.heap.size 2 1 v ws.length (ints ws)∧Below w.heap.size w w':=by
 obtain⟨i0,hi,hz0,hz1,hz2⟩:=info_parts Tryz.qp;obtain⟨c0,c1,c2⟩:=h.out.cells;obtain⟨hS,hg⟩:=h.out.lt;have h1:=h.out.at';have h2:=h.out.most;have h3:=h.out.few;go_enter Tryz.func39,Tryz.ntmps39
 go_wp2
 go_loopw [3,9] (fun v i wr=>∃ k:Nat,i=.int .i64 k∧Af w ws k v wr) (fun _ i _=>ws.length - (intOf i).toNat)
 case atStart=>exact⟨0,rfl,Nat.zero_le _,by simpa using World.ownsRow_nil _ _ _ _,Below.refl _ _⟩
 case round =>
  obtain⟨k,rfl,hA⟩:=hrel;have HA:=hide hA;have hk:=hA.le;have kU:=hide (h.out.on hA.below);have hsz:=hA.below.size;clear hA c0 c1 c2;obtain⟨c0,c1,c2⟩:=kU.out.cells;by_cases hlt:k<ws.length
  ·obtain⟨x,hx⟩:∃ x,ws[k]?=some x:=⟨_,List.getElem?_eq_getElem hlt⟩
   have HX:=hide hx;obtain⟨r,hr⟩:∃ r,r=(f+k) % n:=⟨_,rfl⟩;have hrn:r<n:=by rw[hr];exact Nat.mod_lt _ (by omega)
   have cx:=kU.out.row.word hx;rw[← hr] at cx;have HR:=hide hr;clear hr hx;have n0:(0:Int)≤(r:Int):=by omega
   have n1:(r:Int)<(n:Int):=by omega
   go_wp2
   go_region_held3 (fun w'=>w'.cell? ⟨S,0,none⟩=some (.slice (some ⟨g,0,none⟩) n n)∧w'.cell? ⟨g,r,none⟩=some (.int .i64 x)) (go_keep) (first | (go_at_call 65;refine (Hz S g ws f n k _ (hide (kU.out.drew)) (by omega) r HR).mono ?_;rintro e w' ⟨rfl,d,rfl⟩) | (refine YQ rfl (.tmp 12) (.tmp 22) 38 rfl w.heap.size 2 i0 (.int .i64 0) 1 8 Tryz.underlying38 hi hz0 hz1 hz2 rfl (by decide) _ k (ints (ws.take k)) rfl (HA.out.own.drew.alloc _) wr.heap.size _ 1 [.int .i64 x] rfl (YR _ _ _ rfl (Nat.le_refl _)) (DD _) (by unfold maxLen;omega) (by omega) (by simp;omega) ?_;intro v5 w5 h5 g5;have HN:Hid (Af w ws (k+1) v5 w5):=HA.out.next HX.out (by exact⟨rfl,rfl,rfl,by simp,fun j hj=>Below.heap_alloc _ _ _ hj⟩) h5 g5;have Ov:=hide (h.out.on HN.out.below);have c0:w5.cell? ⟨S,0,none⟩=some (.slice (some ⟨g,0,none⟩) n n):=Ov.out.cells.1;have cx:w5.cell? ⟨g,r,none⟩=some (.int .i64 x):=(by rw[HR.out];exact Ov.out.row.word HX.out);clear h5 g5))
   go_wp2
   go_roundw
   case rel=>exact⟨k+1,by go_num,HN.out⟩
   case measure=>simp[intOf];omega
  ·obtain rfl:k=ws.length:=by omega
   go_wp2
   go_ret
   exact⟨_,rfl,by have:=HA.out.own;rw[List.take_length] at this;exact this,HA.out.below⟩
theorem YT (n:Nat)(w:World)(h1:1≤n)(h3:n≤20) :
  Calls Tryz.prog 33 #[.int .i64 n] w fun e w'=>∃ S,e=.returned (.tuple #[.pointer (some ⟨S,0,none⟩),.int .i64 0])∧BX w' S w.heap.size [] 0 n∧w.heap.size<S∧Below w.heap.size w w':=by
 obtain⟨i0,hi,hz0,hz1,hz2⟩:=info_parts Tryz.qp;have n1:¬ (n:Int)<1:=by omega
 have n3:¬ (20:Int)<(n:Int):=by omega
 go_enter Tryz.func33,Tryz.ntmps33
 go_wp2_with (at_make;refine wpList_make_full _ rfl _ _ 38 rfl w.heap.size 2 i0 (.int .i64 0) 1 Tryz.underlying38 hi hz0 hz1 _ _ _ _ n rfl rfl rfl rfl (by rw[hz2];omega) (by unfold maxLen;omega) (Nat.le_refl _) ?_;intro w1 hown hgrow)
 have hb:Below w.heap.size w w1:=(Below.refl _ w).grown hgrow (Nat.le_refl _) (fun k hk=>by simp at hk);have xH:RK w1 w.heap.size [] 0 n:=by
  rcases hown.2 with⟨hv,_⟩ | ⟨g',cap,cur,hv,_,hh,_,_,hc,_⟩
  ·simp at hv
  ·simp at hv
   obtain⟨rfl,rfl⟩:=hv;exact⟨cur.toList,hh,by simpa using hc,fun i x hx=>by simp at hx⟩
 have hz:=lt_of_block xH.choose_spec.1;have mh:=hide (show BX (w1.alloc (uB w.heap.size n 0 0)) w1.heap.size w.heap.size [] 0 n from⟨heap_alloc_new w1 _,RK.far (Below.heap_alloc _ _ _ hz) xH,Nat.zero_le _,by omega,h3⟩);have HB:=hide (hb.alloc hb.size (uB w.heap.size n 0 0));clear hown hgrow n1 n3 hb xH;go_wp2
 go_ret2
 exact⟨_,rfl,mh.out,hz,HB.out⟩
end Go.Proofs.YtfcpglhpolpdcaaGreatDoor.Mb
namespace Go.Proofs.YtfcpglhpolpdcaaGreatDoor.Vw
open Go.RowKit Vf Vm
structure Bq where
 cap:Nat
 ws:List Int
def aG:gN (List Bq) where
 full:=fun x n=>match x[n]? with | some q=>decide (q.ws.length=q.cap) | none=>false
 may:=fun x n=>∀ q,x[n]?=some q→q.ws.length<q.cap
 empty:=fun x n=>match x[n]? with | some q=>decide (q.ws.length=0) | none=>true
 put:=fun x n v=>match x[n]? with | some q=>x.set n { q with ws:=q.ws++[v] } | none=>x
 head:=fun x n=>match x[n]? with | some q=>(q.ws[0]?).getD 0 | none=>0
 take:=fun x n=>match x[n]? with | some q=>x.set n { q with ws:=q.ws.tail } | none=>x
structure Ag where
 En:av→World→List Ev→Prop
 keep:∀ {L L':av} {w w':World} {l:List Ev},En L w l→Ext L L' w→w.heap.size≤w'.heap.size→(∀ b,b<w.heap.size→(L b).cls=3→w'.heap[b]?=w.heap[b]?)→En L' w' l
structure xI (L:av) (w:World) (S n:Nat) (q:Bq) (g f:Nat):Prop where
 box:Mb.BX w S g q.ws f q.cap
 lS:L S=⟨2,n,0,0⟩
 lg:L g=⟨2,n,0,1⟩
theorem Ah {w w':World}{S g:Nat}{ws:List Int}{f n:Nat}(h:Mb.BX w S g ws f n)(h1:w'.heap[S]?=w.heap[S]?)(h2:w'.heap[g]?=w.heap[g]?):Mb.BX w' S g ws f n:=⟨h1.trans h.blk,Mb.RK.far h2 h.row,h.few,h.at',h.most⟩
theorem xI.keep {L L':av}{w w':World}{S n:Nat}{q:Bq}{g f:Nat}(h:xI L w S n q g f)(hE:Ext L L' w)(hb:∀ b,b<w.heap.size→(L b).cls=2∧(L b).idx=n→w'.heap[b]?=w.heap[b]?):xI L' w' S n q g f:=by
 obtain⟨hS,hg⟩:=h.box.lt;exact⟨Ah h.box (hb S hS (by rw[h.lS];exact⟨rfl,rfl⟩)) (hb g hg (by rw[h.lg];exact⟨rfl,rfl⟩)),(hE S hS).trans h.lS,(hE g hg).trans h.lg⟩
structure pq (Q:Nat→Nat) (nb rb off:Nat) (L:av) (w:World) (x:List Bq):Prop where
 len:x.length=nb
 row:∀ n,n<nb→rb<w.heap.size∧(L rb).cls=0∧w.cell? ⟨rb,off+n,none⟩=some (.iface 104 (.pointer (some ⟨Q n,0,none⟩)))
 boxes:∀ (n:Nat) q,x[n]?=some q→∃ g f,xI L w (Q n) n q g f
theorem pq.keep {Q:Nat→Nat}{nb rb off:Nat}{L L':av}{w w':World}{x:List Bq}(h:pq Q nb rb off L w x)(hE:Ext L L' w)(hz:w.heap.size≤w'.heap.size)(hb:∀ b,b<w.heap.size→b=rb∨(L b).cls=2→w'.heap[b]?=w.heap[b]?):pq Q nb rb off L' w' x :=
 ⟨h.len,fun n hn=>by
  obtain⟨h1,h2,h3⟩:=h.row n hn;exact⟨by omega,by rw[hE rb h1];exact h2,(aI (hb rb h1 (.inl rfl)) _).trans h3⟩,fun n q hq=>by
  obtain⟨g,f,hA⟩:=h.boxes n q hq;exact⟨g,f,hA.keep hE (fun b hs hx=>hb b hs (.inr hx.1))⟩⟩
def Ai (Q:Nat→Nat)(nb rb off:Nat)(A:Ag):Env (List Bq) where
 En:=fun L w l x=>pq Q nb rb off L w x∧A.En L w l
 keep:=fun {L L' w w' _ x} h hE hz hb=>by
  refine⟨?_,A.keep h.2 hE hz (fun b hs h1=>hb b hs (by omega))⟩;by_cases h0:0<nb
  ·have:=(h.1.row 0 h0).2.1
   exact h.1.keep hE hz (fun b hs hx=>hb b hs (by rcases hx with rfl | hx<;>omega))
  ·have hx0:x=[]:=List.eq_nil_of_length_eq_zero (by have:=h.1.len;omega)
   exact⟨h.1.len,fun n hn=>by omega,fun n q hq=>by rw[hx0] at hq;cases hq⟩
theorem pq.turned {Q:Nat→Nat}{nb rb off:Nat}{L:av}{w w':World}{x:List Bq}(h:pq Q nb rb off L w x){n:Nat}{q q':Bq}{g f f':Nat}(hA:xI L w (Q n) n q g f)(hb:Mb.BX w' (Q n) g q'.ws f' q'.cap)(hm:Mb.Mv w w' (Q n) g):pq Q nb rb off L w' (x.set n q'):=by
 have hS:=hA.lS;have hgl:=hA.lg;have stay:∀ b,b<w.heap.size→¬ ((L b).cls=2∧(L b).idx=n)→w'.heap[b]?=w.heap[b]?:=fun b hs hx=>hm.block b hs (fun e=>hx (by rw[e,hS];exact⟨rfl,rfl⟩)) (fun e=>hx (by rw[e,hgl];exact⟨rfl,rfl⟩));refine⟨by simpa using h.len,fun k hk=>?_,fun k p hp=>?_⟩
 ·obtain⟨h1,h2,h3⟩:=h.row k hk
  exact⟨by have:=hm.size;omega,h2,(aI (stay rb h1 (by omega)) _).trans h3⟩
 ·rw[List.getElem?_set] at hp
  split at hp
  ·rename_i e
   subst e;split at hp
   ·cases hp
    exact⟨g,f',hb,hS,hgl⟩
   ·cases hp
  ·rename_i e
   obtain⟨g2,f2,hA2⟩:=h.boxes k p hp;exact⟨g2,f2,hA2.keep (.refl _ _) (fun b hs hx=>stay b hs (by omega))⟩
theorem Ow {L:av}{w w':World}{S g n:Nat}(hm:Mb.Mv w w' S g)(hS:L S=⟨2,n,0,0⟩)(hg:L g=⟨2,n,0,1⟩):aQ (EB L) w w':=⟨hm.os,hm.tape,hm.output,hm.size,fun b hb hx=>hm.block b hb (fun e=>hx (by rw[e];left;rw[hS])) (fun e=>hx (by rw[e];left;rw[hg]))⟩
theorem YU (p:Value)(w:World):Sem.run Tryz.prog (do let q ← program;let y ← method (q.types.size+100) 104 p "Full";callFunc y.fst #[y.snd]) w=.ok (.enter 249 #[p]) w:=by kernel_rfl
theorem YV (p:Value)(w:World):Sem.run Tryz.prog (do let q ← program;let y ← method (q.types.size+100) 104 p "Empty";callFunc y.fst #[y.snd]) w=.ok (.enter 248 #[p]) w:=by kernel_rfl
theorem YW (p v:Value)(w:World):Sem.run Tryz.prog (do let q ← program;let y ← method (q.types.size+100) 104 p "Put";callFunc y.fst #[y.snd,v]) w=.ok (.enter 250 #[p,v]) w:=by kernel_rfl
theorem YX (p:Value)(w:World):Sem.run Tryz.prog (do let q ← program;let y ← method (q.types.size+100) 104 p "Take";callFunc y.fst #[y.snd]) w=.ok (.enter 251 #[p]) w:=by kernel_rfl
theorem YY (Q:Nat→Nat)(nb rb off:Nat)(A:Ag)(c:Cx)(n:Nat)(hn:n<nb):NY (Ai Q nb rb off A) aG c n 104 (.pointer (some ⟨Q n,0,none⟩)) 249 248 250 251:=by
 have at':∀ (L:av) (w:World) (x:List Bq),pq Q nb rb off L w x→∃ q g f,x[n]?=some q∧xI L w (Q n) n q g f:=fun L w x h=>by
  obtain⟨q,hq⟩:∃ q,x[n]?=some q:=⟨_,List.getElem?_eq_getElem (by have:=h.len;omega)⟩;obtain⟨g,f,hA⟩:=h.boxes n q hq;exact⟨q,g,f,hq,hA⟩
 refine⟨YU _,YV _,YW _,YX _,fun L w l x h=>?_,fun L w l x h=>?_,fun L w l x v h hk hm=>?_,fun L w l x h hk hm=>?_⟩
 ·obtain⟨q,g,f,hq,hA⟩:=at' L w x h.out.1
  simp only[aG,hq];exact Mb.Oq (Q n) g q.ws f q.cap w (Sb.hide hA.box) _ (Sb.hide rfl)
 ·obtain⟨q,g,f,hq,hA⟩:=at' L w x h.out.1
  simp only[aG,hq];refine (Mb.Ot (Q n) g q.ws f q.cap w (Sb.hide hA.box) _ (Sb.hide rfl)).mono ?_;rintro e w' ⟨rfl,rfl⟩;exact⟨rfl,0,rfl⟩
 ·obtain⟨q,g,f,hq,hA⟩:=at' L w x h.out.1
  refine (Mb.YO (Q n) g q.ws f q.cap v w (Sb.hide hA.box) (hm.out q hq)).mono ?_;rintro e w' ⟨rfl,h1,h2⟩;simp only[aG,hq];refine⟨(by first | rfl | trivial),L,⟨h.out.1.turned (q':={ q with ws:=q.ws++[v] }) hA h1 h2,A.keep h.out.2 (.refl _ _) h2.size (fun b hs qI=>h2.block b hs (fun e=>by rw[e,hA.lS] at qI;simp at qI) (fun e=>by rw[e,hA.lg] at qI;simp at qI))⟩,⟨.refl _ _,fun b=>.inl rfl⟩,hk.out.on h2.size,Ow h2 hA.lS hA.lg⟩
 ·obtain⟨q,g,f,hq,hA⟩:=at' L w x h.out.1
  have hne:=hm.out;simp only[aG,hq] at hne ⊢;have hlt:0<q.ws.length:=by simp at hne;exact List.length_pos_iff.2 hne
  obtain⟨u,hu⟩:∃ u,q.ws[0]?=some u:=⟨_,List.getElem?_eq_getElem hlt⟩;rw[hu];refine (Mb.YP (Q n) g q.ws u f q.cap w (Sb.hide hA.box) (Sb.hide hu)).mono ?_;rintro e w' ⟨rfl,h1,h2⟩;refine⟨(by first | rfl | trivial),L,⟨h.out.1.turned (q':={ q with ws:=q.ws.tail }) hA h1 h2,A.keep h.out.2 (.refl _ _) h2.size (fun b hs qI=>h2.block b hs (fun e=>by rw[e,hA.lS] at qI;simp at qI) (fun e=>by rw[e,hA.lg] at qI;simp at qI))⟩,⟨.refl _ _,fun b=>.inl rfl⟩,hk.out.on h2.size,Ow h2 hA.lS hA.lg⟩
theorem YZ (Q:Nat→Nat)(rb off cap:Nat)(A:Ag)(c:Cx):mq (Ai Q c.m.boxes.length rb off A) aG c (.slice (some ⟨rb,off,none⟩) c.m.boxes.length cap) :=
 ⟨fun n hn=>⟨rb,off,cap,_,_,_,_,_,_,rfl,fun _ _ _ _ h=>(h.1.row n hn).2.2,YY Q _ rb off A c n hn⟩⟩
end Go.Proofs.YtfcpglhpolpdcaaGreatDoor.Vw
