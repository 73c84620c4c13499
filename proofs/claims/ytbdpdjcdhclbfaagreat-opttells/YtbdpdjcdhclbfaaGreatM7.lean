/- The walk of opt's rules for two instructions. -/
import Derived.Test.YtbdpdjcdhclbfaaGreatM5
import Derived.Test.YtbdpdjcdhclbfaaGreatM6
import Derived.Maps.RangeWalk
set_option maxRecDepth 100000
set_option maxHeartbeats 2000000
namespace Go.Proofs.YtbdpdjcdhclbfaaGreat.Ow
open Go.RowKit Vf Vm Ot
structure EN (w:World) (S F U G N:Nat) (second:Int) (first:List Int):Prop where
 s:w.heap[S]?=some (.cells #[.int .i64 second] 3 (0,0))
 f:w.heap[F]?=some (.cells #[.slice (some ⟨G,0,none⟩) first.length first.length] 37 (0,0))
 u:w.heap[U]?=some (.cells #[.func (.func N) #[] #[]] 123 (0,0))
 g:w.heap[G]?=some (.cells (first.map (Value.int .i64)).toArray 3 (0,0))
theorem zU {B:Nat}{w w1:World}(h:Below B w w1)(d:Nat):Below B w (w1.drewN d):=⟨h.os,h.tape,h.output,h.size,h.block⟩
theorem Au {w:World}{k:Nat}{x y:Value}{t:TypeId}(h:w.heap[k]?=some (.cells #[x,y] t (0,0))):w.cell? ⟨k,0,none⟩=some x∧w.cell? ⟨k,1,none⟩=some y∧w.frozen? ⟨k,0,none⟩=false∧w.frozen? ⟨k,1,none⟩=false:=by simp[World.cell?,World.frozen?,h]
theorem Lu {w:World}{N:Nat}{v:Value}{t:TypeId}(h:w.heap[N]?=some (.cells #[v] t (0,0))):w.cell? ⟨N,0,none⟩=some v:=by simp[World.cell?,h]
theorem Ws (lo hi:Nat)(w0:World)(S F U G N:Nat)(second:Int)(first:List Int)(put:Ins→Ins→List Ins)(hf:first.length≤3)(hP:EN w0 S F U G N second first)(hS:lo≤S∧S<hi)(hF:lo≤F∧F<hi)(hU:lo≤U∧U<hi)(hG:lo≤G∧G<hi)(hN:FV N put) :
  GX lo hi w0 93 #[.pointer (some ⟨S,0,none⟩),.pointer (some ⟨F,0,none⟩),.pointer (some ⟨U,0,none⟩)] (fun _=>pair second put first):=by
 refine⟨fun args w=>by kernel_rfl,fun k l b off cap B w hk hl0 hl hC hB hH=>?_⟩;have s0:w.cell? ⟨S,0,none⟩=some (.int .i64 second):=Lu ((hH S hS.1 hS.2).trans hP.s);have f0:w.cell? ⟨F,0,none⟩=some (.slice (some ⟨G,0,none⟩) first.length first.length):=Lu ((hH F hF.1 hF.2).trans hP.f);have u0:w.cell? ⟨U,0,none⟩=some (.func (.func N) #[] #[]):=Lu ((hH U hU.1 hU.2).trans hP.u);have hg:w.heap[G]?=some (.cells (first.map (Value.int .i64)).toArray 3 (0,0)):=(hH G hG.1 hG.2).trans hP.g;have HG:Hid (∀ W:World,W.heap[G]?=w.heap[G]?→∀ j,j<first.length→W.cell? ⟨G,0+j,none⟩=some (.int .i64 (first.getD j 0))):=fun W hW j hj=>by
  simp[World.cell?,hW,hg,hj]
 have Wt:=lt_of_block hg;clear hg hP hS hF hU hG hH;cases l with
 | nil=>simp at hl0
 | cons a r =>
  cases r with
  | nil =>
   have HR:Hid (pair second put first [a]=(0,[])):=rfl;have ll:Hid (∀ d o x y,Below w.heap.size w ((((w.alloc o).drewN d).setCell ⟨w.heap.size,0,none⟩ x).setCell ⟨w.heap.size,1,none⟩ y)):=fun d o x y=>(Below.setCell (p:=⟨w.heap.size,0,none⟩) (zU (fG w o) d) (Nat.le_refl _) _).setCell (p:=⟨w.heap.size,1,none⟩) (Nat.le_refl _) _;go_enter Tryz.func93,Tryz.ntmps93
   go_wp2
   go_quiet (fail)
   go_wp2
   exact bodyPost_ret (v:=.agg #[.int .i64 0,.slice none 0 0]) (by simp[results,Tryz.results93,go_sem]) rfl ⟨_,_,_,by rw[HR.out];rfl,by rw[HR.out];exact .none _ _,ll.out _ _ _ _⟩
  | cons c r =>
   obtain⟨hb,a0,a1,a2⟩:=Ar hC (i:=0) (x:=a) rfl;obtain⟨_,c0,c1,c2⟩:=Ar hC (i:=1) (x:=c) rfl;rw[Nat.zero_mul,Nat.add_zero] at a0 a1 a2;rw[Nat.one_mul] at c0 c1 c2;have hbw:b<w.heap.size:=by omega
   have HE:=hide (Lm second put first a c r);obtain⟨n,hn⟩:∃ n,n=(a :: c :: r).length:=⟨_,rfl⟩;rw[← hn];have n0:(0:Int)<(n:Int):=by rw[hn];simp;omega
   have Wu:0<n:=by omega
   have n1:(1:Int)<(n:Int):=by rw[hn];simp;omega
   have n2:¬ (n:Int)<2:=by omega
   clear hC hn hl hl0;have hSl:S<w.heap.size:=World.block_lt_of_cell? w _ s0;have hFl:F<w.heap.size:=World.block_lt_of_cell? w _ f0;have Wv:U<w.heap.size:=World.block_lt_of_cell? w _ u0;have Ww:Hid (∀ d o j,j<first.length→((w.alloc o).drewN d).cell? ⟨G,0+j,none⟩=some (.int .i64 (first.getD j 0))):=fun d o=>HG.out ((w.alloc o).drewN d) (Below.heap_alloc _ _ _ Wt);have ll:Hid (∀ d o x y,Below w.heap.size w ((((w.alloc o).drewN d).setCell ⟨w.heap.size,0,none⟩ x).setCell ⟨w.heap.size,1,none⟩ y)):=fun d o x y=>(Below.setCell (p:=⟨w.heap.size,0,none⟩) (zU (fG w o) d) (Nat.le_refl _) _).setCell (p:=⟨w.heap.size,1,none⟩) (Nat.le_refl _) _;by_cases h1:c.op=second
   ·have e1:(c.op != second)=false:=by simpa using h1
    go_enter Tryz.func93,Tryz.ntmps93
    go_upto_region 1 with fail
    go_region_held3 (fun w'=>w'.cell? ⟨S,0,none⟩=some (.int .i64 second)∧w'.cell? ⟨F,0,none⟩=some (.slice (some ⟨G,0,none⟩) first.length first.length)∧w'.cell? ⟨b,off,none⟩=some (.int .i64 a.op)∧w'.cell? ⟨b,off+3,none⟩=some (.int .i64 c.op)) (go_keep) ((go_at_call 94;refine (Tryz.slices_Contains_int G 0 first.length first.length first a.op _ (Nat.le_refl _) (by omega) (Ww.out 1 _)).mono ?_;rintro e w1 ⟨rfl,rfl⟩))
    have u1:((w.alloc (.cells #[.int .i64 0,.slice none 0 0] 87)).drewN 1).cell? ⟨U,0,none⟩=some (.func (.func N) #[] #[]):=vZ u0;have x0:((w.alloc (.cells #[.int .i64 0,.slice none 0 0] 87)).drewN 1).cell? ⟨b,off,none⟩=some (.int .i64 a.op):=vZ a0;have x1:((w.alloc (.cells #[.int .i64 0,.slice none 0 0] 87)).drewN 1).cell? ⟨b,off+1,none⟩=some (.int .i64 a.a):=vZ a1;generalize hq:decide (a.op ∈ first)=q;cases q with
    | true =>
     have h2:a.op ∈ first:=of_decide_eq_true hq
     have HR:Hid (pair second put first (a :: c :: r)=(2,put a c)):=by unfold Hid;rw[HE.out,if_pos ⟨h1,h2⟩]
     clear h1 h2 HE hq e1;have en:=hN.enter;have nU:¬ w.heap.size=U:=by omega
     have nb:¬ w.heap.size=b:=by omega
     have hz:w.heap.size<(w.alloc (.cells #[.int .i64 0,.slice none 0 0] 87)).heap.size:=by simp
     go_wp2
     go_region_held3 (fun w'=>w'.cell? ⟨U,0,none⟩=some (.func (.func N) #[] #[])∧w'.cell? ⟨b,off,none⟩=some (.int .i64 a.op)∧w'.cell? ⟨b,off+1,none⟩=some (.int .i64 a.a)∧w'.cell? ⟨b,off+2,none⟩=some (.int .i64 a.n)∧w'.cell? ⟨b,off+3,none⟩=some (.int .i64 c.op)∧w'.cell? ⟨b,off+3+1,none⟩=some (.int .i64 c.a)∧w'.cell? ⟨b,off+3+2,none⟩=some (.int .i64 c.n)) (go_keep) ((refine (hN.call a c _).mono ?_;rintro e w1 ⟨va,vn,vc,rfl,hp,hb1⟩;have HP:=hide hp;have HB1:=hide hb1;clear hp hb1;have k0:=(HB1.out.cell (p:=⟨U,0,none⟩) (Nat.lt_trans Wv hz)).trans (vZ u0);have k1:=(HB1.out.cell (p:=⟨b,off,none⟩) (Nat.lt_trans hbw hz)).trans (vZ a0);have k2:=(HB1.out.cell (p:=⟨b,off+1,none⟩) (Nat.lt_trans hbw hz)).trans (vZ a1);have k3:=(HB1.out.cell (p:=⟨b,off+2,none⟩) (Nat.lt_trans hbw hz)).trans (vZ a2);have k4:=(HB1.out.cell (p:=⟨b,off+3,none⟩) (Nat.lt_trans hbw hz)).trans (vZ c0);have k5:=(HB1.out.cell (p:=⟨b,off+3+1,none⟩) (Nat.lt_trans hbw hz)).trans (vZ c1);have k6:=(HB1.out.cell (p:=⟨b,off+3+2,none⟩) (Nat.lt_trans hbw hz)).trans (vZ c2);obtain⟨m0,m1,z0,z1⟩:=Au ((HB1.out.block w.heap.size hz).trans (heap_alloc_new w _))))
     have zu:Hid (∀ x y,Below w.heap.size w ((w1.setCell ⟨w.heap.size,0,none⟩ x).setCell ⟨w.heap.size,1,none⟩ y)):=fun x y=>(Below.setCell (p:=⟨w.heap.size,0,none⟩) ((zU (fG w (.cells #[.int .i64 0,.slice none 0 0] 87)) 2).trans (HB1.out.mono (Nat.le_of_lt hz))) (Nat.le_refl _) _).setCell (p:=⟨w.heap.size,1,none⟩) (Nat.le_refl _) _;have Lv:Hid (uI w ((w1.setCell ⟨w.heap.size,0,none⟩ (.int .i64 2)).setCell ⟨w.heap.size,1,none⟩ (.slice va vn vc)) (.slice va vn vc) (put a c)):=by
      rcases HP.out with h | ⟨c',q,h1,h2,h3,h4⟩
      ·exact .inl h
      ·have hq:w.heap.size<q:=Nat.lt_of_lt_of_le hz h3
       exact .inr ⟨c',q,h1,h2,by omega,by rw[Below.heap_setCell _ ⟨w.heap.size,1,none⟩ _ _ (by show q≠w.heap.size;omega),Below.heap_setCell _ ⟨w.heap.size,0,none⟩ _ _ (by show q≠w.heap.size;omega)];exact h4⟩
     go_wp2
     exact bodyPost_ret (v:=.agg #[.int .i64 2,.slice va vn vc]) (by simp[results,Tryz.results93,go_sem,m0,m1]) rfl ⟨_,_,_,by rw[HR.out];rfl,by rw[HR.out];exact Lv.out,zu.out _ _⟩
    | false =>
     have h2:¬ a.op ∈ first:=of_decide_eq_false hq
     have HR:Hid (pair second put first (a :: c :: r)=(0,[])):=by unfold Hid;rw[HE.out,if_neg (fun h=>h2 h.2)]
     clear h1 h2 HE hq e1;go_wp2
     exact bodyPost_ret (v:=.agg #[.int .i64 0,.slice none 0 0]) (by simp[results,Tryz.results93,go_sem]) rfl ⟨_,_,_,by rw[HR.out];rfl,by rw[HR.out];exact .none _ _,ll.out _ _ _ _⟩
   ·have e1:(c.op != second)=true:=by simpa using h1
    have HR:Hid (pair second put first (a :: c :: r)=(0,[])):=by unfold Hid;rw[HE.out,if_neg (fun h=>h1 h.1)]
    clear h1 HE;go_enter Tryz.func93,Tryz.ntmps93
    go_upto_region 1 with fail
    go_quiet (fail)
    go_wp2
    exact bodyPost_ret (v:=.agg #[.int .i64 0,.slice none 0 0]) (by simp[results,Tryz.results93,go_sem]) rfl ⟨_,_,_,by rw[HR.out];rfl,by rw[HR.out];exact .none _ _,ll.out _ _ _ _⟩
theorem Wx (op a n:Int)(w:World) :
  Calls Tryz.prog 92 #[.agg #[.int .i64 op,.int .i64 a,.int .i64 n]] w fun e w'=>e=.returned (.int .i64 (word ⟨op,a,n⟩))∧w'=w.alloc (fF ⟨op,a,n⟩):=Wd ⟨op,a,n⟩ w
theorem Jv (op a n:Int)(w:World) :
  Calls Tryz.prog 92 #[.agg #[.int .i64 op,.int .i64 a,.int .i64 n]] w fun e w'=>e=.returned (.int .i64 (word ⟨op,a,n⟩))∧Below w.heap.size w w':=(Wx op a n w).mono fun e w' ⟨h1,h2⟩=>⟨h1,by rw[h2];exact fG _ _⟩
abbrev sD:Obj:=.cells #[.int .i64 0,.slice none 0 0] 87
theorem FW {w W:World}(h:Below w.heap.size w W)(x y:Value):Below w.heap.size w ((W.setCell ⟨w.heap.size,0,none⟩ x).setCell ⟨w.heap.size,1,none⟩ y):=(h.setCell (p:=⟨w.heap.size,0,none⟩) (Nat.le_refl _) x).setCell (p:=⟨w.heap.size,1,none⟩) (Nat.le_refl _) y
theorem Lx (lo hi:Nat)(w0:World):GX lo hi w0 66 #[] (fun _=>ve):=by
 refine⟨fun args w=>by kernel_rfl,fun k l b off cap B w hk hl0 hl hC hB _=>?_⟩;have ll:Hid (∀ d x y,Below w.heap.size w ((((w.alloc sD).drewN d).setCell ⟨w.heap.size,0,none⟩ x).setCell ⟨w.heap.size,1,none⟩ y)):=fun d x y=>FW (zU (fG w sD) d) x y;cases l with
 | nil=>simp at hl0
 | cons a r =>
 cases r with
 | nil =>
  have HR:Hid (ve [a]=(0,[])):=rfl;clear hC hl hl0;go_enter Tryz.func66,Tryz.ntmps66
  go_wp2
  go_quiet (fail)
  go_wp2
  exact bodyPost_ret (v:=.agg #[.int .i64 0,.slice none 0 0]) (by simp[results,Tryz.results66,go_sem]) rfl ⟨_,_,_,by rw[HR.out];rfl,by rw[HR.out];exact .none _ _,ll.out _ _ _⟩
 | cons c r =>
 cases r with
 | nil =>
  have HR:Hid (ve [a,c]=(0,[])):=rfl;clear hC hl hl0;go_enter Tryz.func66,Tryz.ntmps66
  go_wp2
  go_quiet (fail)
  go_wp2
  exact bodyPost_ret (v:=.agg #[.int .i64 0,.slice none 0 0]) (by simp[results,Tryz.results66,go_sem]) rfl ⟨_,_,_,by rw[HR.out];rfl,by rw[HR.out];exact .none _ _,ll.out _ _ _⟩
 | cons d r =>
  obtain⟨hb,a0,a1,a2⟩:=Ar hC (i:=0) (x:=a) rfl;obtain⟨_,c0,c1,c2⟩:=Ar hC (i:=1) (x:=c) rfl;obtain⟨_,d0,d1,d2⟩:=Ar hC (i:=2) (x:=d) rfl;rw[Nat.zero_mul,Nat.add_zero] at a0 a1 a2;rw[Nat.one_mul] at c0 c1 c2;rw[show 2 * 3=6 from rfl] at d0 d1 d2;have hbw:b<w.heap.size:=by omega
  have HE:=hide (Ll a c d r);obtain⟨n,hn⟩:∃ n,n=(a :: c :: d :: r).length:=⟨_,rfl⟩;rw[← hn];have n0:(0:Int)<(n:Int):=by rw[hn];simp;omega
  have Wu:0<n:=by omega
  have n1:(1:Int)<(n:Int):=by rw[hn];simp;omega
  have n2:(2:Int)<(n:Int):=by rw[hn];simp;omega
  have n3:¬ (n:Int)<3:=by omega
  clear hC hn hl hl0 d1 d2;by_cases h1:a.op=c.op
  ·have e1:(a.op != c.op)=false:=by simpa using h1
   obtain⟨q,hq⟩:∃ q,q=reckons a.op d.op:=⟨_,rfl⟩;have HQ:=hide hq;have H1:=hide h1;clear hq h1;go_enter Tryz.func66,Tryz.ntmps66
   go_upto_region 1 with fail
   have x0:(w.alloc sD).drew.cell? ⟨b,off,none⟩=some (.int .i64 a.op):=vZ a0;have x3:(w.alloc sD).drew.cell? ⟨b,off+3,none⟩=some (.int .i64 c.op):=vZ c0;have x6:(w.alloc sD).drew.cell? ⟨b,off+6,none⟩=some (.int .i64 d.op):=vZ d0;refine wp_region_held_drew (S:=fun w'=>w'.cell? ⟨b,off,none⟩=some (.int .i64 a.op)∧w'.cell? ⟨b,off+3,none⟩=some (.int .i64 c.op)∧w'.cell? ⟨b,off+6,none⟩=some (.int .i64 d.op)) (by kernel_rfl) ⟨x0,x3,x6⟩ (fun hHeld=>?_);clear x0 x3 x6;refine wpAnyH_take (i:=0) (oi:=_) (v:=?_) rfl (by kernel_rfl) (by kernel_rfl) (by kernel_rfl) (fun _ _ _ h=>h) (Or.inl ⟨by kernel_rfl,?_⟩) (by assumption) ?_;rotate_left
   ·intro w hSw
    (try dsimp only at hSw)
    go_simp
    (try with_reducible rfl)
   (try simp only[Act.put])
   (try go_frame)
   refine wpAnyH_take (i:=1) (oi:=_) (v:=?_) rfl (by kernel_rfl) (by kernel_rfl) (by kernel_rfl) (fun _ _ _ h=>h) (Or.inl ⟨by kernel_rfl,?_⟩) (by assumption) ?_;rotate_left
   ·intro w hSw
    (try dsimp only at hSw)
    go_simp
    (try with_reducible rfl)
   (try simp only[Act.put])
   (try go_frame)
   refine wpAnyH_take (i:=2) (oi:=_) (v:=?_) rfl (by kernel_rfl) (by kernel_rfl) (by kernel_rfl) (fun _ _ _ h=>h) (Or.inl ⟨by kernel_rfl,?_⟩) (by assumption) ?_;rotate_left
   ·intro w hSw
    (try dsimp only at hSw)
    go_simp
    (try with_reducible rfl)
   (try simp only[Act.put])
   (try go_frame)
   refine wpAnyH_take (i:=3) (oi:=_) (v:=?_) rfl (by kernel_rfl) (by kernel_rfl) (by kernel_rfl) (fun _ _ _ h=>h) (Or.inl ⟨by kernel_rfl,?_⟩) (by assumption) ?_;rotate_left
   ·intro w hSw
    (try dsimp only at hSw)
    go_simp
    (try with_reducible rfl)
   (try simp only[Act.put])
   (try go_frame)
   refine wpAnyH_take (i:=4) (oi:=_) (v:=?_) rfl (by kernel_rfl) (by kernel_rfl) (by kernel_rfl) (fun _ _ _ h=>h) (Or.inl ⟨by kernel_rfl,?_⟩) (by assumption) ?_;rotate_left
   ·intro w hSw
    (try dsimp only at hSw)
    go_simp
    (try with_reducible rfl)
   (try simp only[Act.put])
   (try go_frame)
   refine wpAnyH_take (i:=5) (oi:=_) (v:=?_) rfl (by kernel_rfl) (by kernel_rfl) (by kernel_rfl) (fun _ _ _ h=>h) (Or.inl ⟨by kernel_rfl,?_⟩) (by assumption) ?_;rotate_left
   ·intro w hSw
    (try dsimp only at hSw)
    go_simp
    (try with_reducible rfl)
   (try simp only[Act.put])
   (try go_frame)
   refine wpAnyH_take (i:=6) (oi:=_) (v:=?_) rfl (by kernel_rfl) (by kernel_rfl) (by kernel_rfl) (fun _ _ _ h=>h) (Or.inl ⟨by kernel_rfl,?_⟩) (by assumption) ?_;rotate_left
   ·intro w hSw
    (try dsimp only at hSw)
    go_simp
    (try with_reducible rfl)
   (try simp only[Act.put])
   (try go_frame)
   refine wpAnyH_take (i:=7) (oi:=_) (v:=?_) rfl (by kernel_rfl) (by kernel_rfl) (by kernel_rfl) (fun _ _ _ h=>h) (Or.inl ⟨by kernel_rfl,?_⟩) (by assumption) ?_;rotate_left
   ·intro w hSw
    (try dsimp only at hSw)
    go_simp
    (try with_reducible rfl)
   (try simp only[Act.put])
   (try go_frame)
   refine wpAnyH_take (i:=8) (oi:=_) (v:=?_) rfl (by kernel_rfl) (by kernel_rfl) (by kernel_rfl) (fun _ _ _ h=>h) (Or.inl ⟨by kernel_rfl,?_⟩) (by assumption) ?_;rotate_left
   ·intro w hSw
    (try dsimp only at hSw)
    go_simp
    (try with_reducible rfl)
   (try simp only[Act.put])
   (try go_frame)
   refine wpAnyH_take (i:=9) (oi:=_) (v:=?_) rfl (by kernel_rfl) (by kernel_rfl) (by kernel_rfl) (fun _ _ _ h=>h) (Or.inl ⟨by kernel_rfl,?_⟩) (by assumption) ?_;rotate_left
   ·intro w hSw
    (try dsimp only at hSw)
    go_simp
    (try with_reducible rfl)
   (try simp only[Act.put])
   (try go_frame)
   refine wpAnyH_take (i:=10) (oi:=_) (v:=?_) rfl (by kernel_rfl) (by kernel_rfl) (by kernel_rfl) (fun _ _ _ h=>h) (Or.inl ⟨by kernel_rfl,?_⟩) (by assumption) ?_;rotate_left
   ·intro w hSw
    (try dsimp only at hSw)
    go_simp
    (try with_reducible rfl)
   (try simp only[Act.put])
   (try go_frame)
   refine wpAnyH_take (i:=11) (oi:=_) (v:=?_) rfl (by kernel_rfl) (by kernel_rfl) (by kernel_rfl) (fun _ _ _ h=>h) (Or.inl ⟨by kernel_rfl,?_⟩) (by assumption) ?_;rotate_left
   ·intro w hSw
    (try dsimp only at hSw)
    go_simp
    (try with_reducible rfl)
   (try simp only[Act.put])
   (try go_frame)
   refine wpAnyH_take (i:=12) (oi:=_) (v:=?_) rfl (by kernel_rfl) (by kernel_rfl) (by kernel_rfl) (fun _ _ _ h=>h) (Or.inl ⟨by kernel_rfl,?_⟩) (by assumption) ?_;rotate_left
   ·intro w hSw
    (try dsimp only at hSw)
    go_simp
    (try with_reducible rfl)
   (try simp only[Act.put])
   (try go_frame)
   refine wpAnyH_take (i:=13) (oi:=_) (v:=?_) rfl (by kernel_rfl) (by kernel_rfl) (by kernel_rfl) (fun _ _ _ h=>h) (Or.inl ⟨by kernel_rfl,?_⟩) (by assumption) ?_;rotate_left
   ·intro w hSw
    (try dsimp only at hSw)
    go_simp
    (try with_reducible rfl)
   (try simp only[Act.put])
   (try go_frame)
   refine wpAnyH_take (i:=14) (oi:=_) (v:=?_) rfl (by kernel_rfl) (by kernel_rfl) (by kernel_rfl) (fun _ _ _ h=>h) (Or.inl ⟨by kernel_rfl,?_⟩) (by assumption) ?_;rotate_left
   ·intro w hSw
    (try dsimp only at hSw)
    go_simp
    (try with_reducible rfl)
   (try simp only[Act.put])
   (try go_frame)
   refine wpAnyH_take (i:=15) (oi:=_) (v:=?_) rfl (by kernel_rfl) (by kernel_rfl) (by kernel_rfl) (fun _ _ _ h=>h) (Or.inl ⟨by kernel_rfl,?_⟩) (by assumption) ?_;rotate_left
   ·intro w hSw
    (try dsimp only at hSw)
    go_simp
    (try with_reducible rfl)
   (try simp only[Act.put])
   (try go_frame)
   refine wpAnyH_take (i:=16) (oi:=_) (v:=?_) rfl (by kernel_rfl) (by kernel_rfl) (by kernel_rfl) (fun _ _ _ h=>h) (Or.inl ⟨by kernel_rfl,?_⟩) (by assumption) ?_;rotate_left
   ·intro w hSw
    (try dsimp only at hSw)
    go_simp
    (try with_reducible rfl)
   (try simp only[Act.put])
   (try go_frame)
   refine wpAnyH_take (i:=17) (oi:=_) (v:=?_) rfl (by kernel_rfl) (by kernel_rfl) (by kernel_rfl) (fun _ _ _ h=>h) (Or.inl ⟨by kernel_rfl,?_⟩) (by assumption) ?_;rotate_left
   ·intro w hSw
    (try dsimp only at hSw)
    go_simp
    (try with_reducible rfl)
   (try simp only[Act.put])
   (try go_frame)
   refine wpAnyH_take (i:=18) (oi:=_) (v:=?_) rfl (by kernel_rfl) (by kernel_rfl) (by kernel_rfl) (fun _ _ _ h=>h) (Or.inl ⟨by kernel_rfl,?_⟩) (by assumption) ?_;rotate_left
   ·intro w hSw
    (try dsimp only at hSw)
    go_simp
    (try with_reducible rfl)
   (try simp only[Act.put])
   (try go_frame)
   refine wpAnyH_take (i:=19) (oi:=_) (v:=?_) rfl (by kernel_rfl) (by kernel_rfl) (by kernel_rfl) (fun _ _ _ h=>h) (Or.inl ⟨by kernel_rfl,?_⟩) (by assumption) ?_;rotate_left
   ·intro w hSw
    (try dsimp only at hSw)
    go_simp
    (try with_reducible rfl)
   (try simp only[Act.put])
   (try go_frame)
   refine wpAnyH_take (i:=20) (oi:=_) (v:=?_) rfl (by kernel_rfl) (by kernel_rfl) (by kernel_rfl) (fun _ _ _ h=>h) (Or.inl ⟨by kernel_rfl,?_⟩) (by assumption) ?_;rotate_left
   ·intro w hSw
    (try dsimp only at hSw)
    go_simp
    (try with_reducible rfl)
   (try simp only[Act.put])
   (try go_frame)
   refine wpAnyH_take (i:=21) (oi:=_) (v:=?_) rfl (by kernel_rfl) (by kernel_rfl) (by kernel_rfl) (fun _ _ _ h=>h) (Or.inl ⟨by kernel_rfl,?_⟩) (by assumption) ?_;rotate_left
   ·intro w hSw
    (try dsimp only at hSw)
    go_simp
    (try with_reducible rfl)
   (try simp only[Act.put])
   (try go_frame)
   refine wpAnyH_take (i:=22) (oi:=_) (v:=?_) rfl (by kernel_rfl) (by kernel_rfl) (by kernel_rfl) (fun _ _ _ h=>h) (Or.inl ⟨by kernel_rfl,?_⟩) (by assumption) ?_;rotate_left
   ·intro w hSw
    (try dsimp only at hSw)
    go_simp
    (try with_reducible rfl)
   (try simp only[Act.put])
   (try go_frame)
   refine wpAnyH_ready (rs:=[23]) (by kernel_rfl) (by simp) ?_;refine AllReadyH.cons (o:=_) rfl (fun K hK=>?_) AllReadyH.nil;go_simp
   refine (We a.op d.op _ q HQ).mono ?_;rintro e w1 ⟨rfl,rfl⟩;refine hK.out _ _ (by assumption) (fun hHeld=>?_);clear hK K;(try simp only[Act.put])
   (try go_frame)
   refine wpAnyH_take (i:=24) (oi:=_) (v:=?_) rfl (by kernel_rfl) (by kernel_rfl) (by kernel_rfl) (fun _ _ _ h=>h) (Or.inl ⟨by kernel_rfl,?_⟩) (by assumption) ?_;rotate_left
   ·intro w hSw
    (try dsimp only at hSw)
    go_simp
    (try with_reducible rfl)
   (try simp only[Act.put])
   (try go_frame)
   refine wpAnyH_ready (rs:=[25]) (by kernel_rfl) (by simp) ?_;refine AllReadyH.cons (o:=_) rfl (fun K hK=>?_) AllReadyH.nil;go_simp
   refine hK.out _ _ (by assumption) (fun hHeld=>?_);clear hK K;refine wpAnyH_done (by kernel_rfl) ?_ _;clear hHeld;cases q with
   | false =>
    have HR:Hid (ve (a :: c :: d :: r)=(0,[])):=by unfold Hid;rw[HE.out,if_neg (fun h=>by have:=h.2.1;rw[← HQ.out] at this;cases this)]
    clear HE HQ e1;go_wp2
    exact bodyPost_ret (v:=.agg #[.int .i64 0,.slice none 0 0]) (by simp[results,Tryz.results66,go_sem]) rfl ⟨_,_,_,by rw[HR.out];rfl,by rw[HR.out];exact .none _ _,Below.drew (fG w sD)⟩
   | true =>
    have hbn:¬ w.heap.size=b:=by omega
    have uQ:Hid (∀ W:World,Below (w.alloc sD).heap.size (w.alloc sD) W→W.cell? ⟨b,off,none⟩=some (.int .i64 a.op)∧W.cell? ⟨b,off+1,none⟩=some (.int .i64 a.a)∧W.cell? ⟨b,off+2,none⟩=some (.int .i64 a.n)∧W.cell? ⟨b,off+3,none⟩=some (.int .i64 c.op)∧W.cell? ⟨b,off+3+1,none⟩=some (.int .i64 c.a)∧W.cell? ⟨b,off+3+2,none⟩=some (.int .i64 c.n)):=fun W h=>⟨(h.cell (p:=⟨b,off,none⟩) (by simp;omega)).trans (vZ a0),(h.cell (p:=⟨b,off+1,none⟩) (by simp;omega)).trans (vZ a1),(h.cell (p:=⟨b,off+2,none⟩) (by simp;omega)).trans (vZ a2),(h.cell (p:=⟨b,off+3,none⟩) (by simp;omega)).trans (vZ c0),(h.cell (p:=⟨b,off+3+1,none⟩) (by simp;omega)).trans (vZ c1),(h.cell (p:=⟨b,off+3+2,none⟩) (by simp;omega)).trans (vZ c2)⟩;by_cases hz:word c=0∧(d.op=11∨d.op=12)
    ·have HR:Hid (ve (a :: c :: d :: r)=(0,[])):=by unfold Hid;rw[HE.out,if_neg (fun h=>h.2.2 hz)]
     have HZ:=hide hz;clear HE HQ e1 hz H1;go_wp2
     go_region_held3 (fun w'=>w'.cell? ⟨b,off,none⟩=some (.int .i64 a.op)∧w'.cell? ⟨b,off+1,none⟩=some (.int .i64 a.a)∧w'.cell? ⟨b,off+2,none⟩=some (.int .i64 a.n)∧w'.cell? ⟨b,off+3,none⟩=some (.int .i64 c.op)∧w'.cell? ⟨b,off+3+1,none⟩=some (.int .i64 c.a)∧w'.cell? ⟨b,off+3+2,none⟩=some (.int .i64 c.n)) (go_keep) (first | (go_at_call 91;refine (Vw.VY d.op (word a) (word c) _ HZ.out).mono ?_;rintro e w4 ⟨rfl,rfl⟩) | (go_at_call 92;have hx1:=xP.out;refine (Jv _ _ _ _).mono ?_;rintro e w3 ⟨rfl,hb3⟩;have lU:Hid (Below (w.alloc sD).heap.size (w.alloc sD) w3):=hx1.trans (hb3.mono hx1.size);clear hb3 hx1;have k0:=(uQ.out _ lU.out).1;have k1:=(uQ.out _ lU.out).2.1;have k2:=(uQ.out _ lU.out).2.2.1;have k3:=(uQ.out _ lU.out).2.2.2.1;have k4:=(uQ.out _ lU.out).2.2.2.2.1;have k5:=(uQ.out _ lU.out).2.2.2.2.2) | (go_at_call 92;refine (Jv _ _ _ _).mono ?_;rintro e w2 ⟨rfl,hb2⟩;have xP:Hid (Below (w.alloc sD).heap.size (w.alloc sD) w2):=⟨hb2.os,hb2.tape,hb2.output,hb2.size,hb2.block⟩;clear hb2;have k0:=(uQ.out _ xP.out).1;have k1:=(uQ.out _ xP.out).2.1;have k2:=(uQ.out _ xP.out).2.2.1;have k3:=(uQ.out _ xP.out).2.2.2.1;have k4:=(uQ.out _ xP.out).2.2.2.2.1;have k5:=(uQ.out _ xP.out).2.2.2.2.2))
     obtain⟨m0,m1,z0,z1⟩:=Au ((lU.out.block w.heap.size (by simp)).trans (heap_alloc_new w _));have uk:Hid (Below w.heap.size w w4):=(fG w sD).trans (lU.out.mono (by simp));have tK:w.heap.size<w4.heap.size:=Nat.lt_of_lt_of_le (by simp) lU.out.size;go_wp2
     exact bodyPost_ret (v:=.agg #[.int .i64 0,.slice none 0 0]) (by simp[results,Tryz.results66,go_sem,m0,m1]) rfl ⟨_,_,_,by rw[HR.out];rfl,by rw[HR.out];exact .none _ _,FW uk.out _ _⟩
    ·obtain⟨v,hv⟩:∃ v,v=two d.op (word a) (word c):=⟨_,rfl⟩
     have HV:=hide hv;have HZ:=hide hz;have yJ:Hid (ve (a :: c :: d :: r)=(3,[comes a c d])):=by unfold Hid;rw[HE.out,if_pos ⟨H1.out,HQ.out.symm,hz⟩]
     clear HE HQ e1 hz H1 hv;go_wp2
     go_region_held3 (fun w'=>w'.cell? ⟨b,off,none⟩=some (.int .i64 a.op)∧w'.cell? ⟨b,off+1,none⟩=some (.int .i64 a.a)∧w'.cell? ⟨b,off+2,none⟩=some (.int .i64 a.n)∧w'.cell? ⟨b,off+3,none⟩=some (.int .i64 c.op)∧w'.cell? ⟨b,off+3+1,none⟩=some (.int .i64 c.a)∧w'.cell? ⟨b,off+3+2,none⟩=some (.int .i64 c.n)) (go_keep) (first | (go_at_call 91;refine (Vw.VX d.op (word a) (word c) _ HZ.out v HV).mono ?_;rintro e w4 ⟨rfl,rfl⟩) | (go_at_call 92;have hx1:=xP.out;refine (Jv _ _ _ _).mono ?_;rintro e w3 ⟨rfl,hb3⟩;have lU:Hid (Below (w.alloc sD).heap.size (w.alloc sD) w3):=hx1.trans (hb3.mono hx1.size);clear hb3 hx1;have k0:=(uQ.out _ lU.out).1;have k1:=(uQ.out _ lU.out).2.1;have k2:=(uQ.out _ lU.out).2.2.1;have k3:=(uQ.out _ lU.out).2.2.2.1;have k4:=(uQ.out _ lU.out).2.2.2.2.1;have k5:=(uQ.out _ lU.out).2.2.2.2.2) | (go_at_call 92;refine (Jv _ _ _ _).mono ?_;rintro e w2 ⟨rfl,hb2⟩;have xP:Hid (Below (w.alloc sD).heap.size (w.alloc sD) w2):=⟨hb2.os,hb2.tape,hb2.output,hb2.size,hb2.block⟩;clear hb2;have k0:=(uQ.out _ xP.out).1;have k1:=(uQ.out _ xP.out).2.1;have k2:=(uQ.out _ xP.out).2.2.1;have k3:=(uQ.out _ xP.out).2.2.2.1;have k4:=(uQ.out _ xP.out).2.2.2.2.1;have k5:=(uQ.out _ xP.out).2.2.2.2.2))
     have uk:Hid (Below w.heap.size w w4):=(fG w sD).trans (lU.out.mono (by simp));have tK:w.heap.size<w4.heap.size:=Nat.lt_of_lt_of_le (by simp) lU.out.size;by_cases h12:d.op≤12
     ·have HR:Hid (ve (a :: c :: d :: r)=(3,[⟨1,0,v⟩])):=by unfold Hid;rw[yJ.out,comes,if_pos h12,HV.out]
      obtain⟨W5,kX⟩:∃ W5,W5=w4.alloc (fF ⟨1,0,v⟩):=⟨_,rfl⟩;have yt:=hide kX.symm;have vL:Hid (Below w.heap.size w W5):=by rw[kX];exact uk.out.alloc uk.out.size _
      have hb5:W5.heap[w.heap.size]?=w4.heap[w.heap.size]?:=by rw[kX];exact Below.heap_alloc _ _ _ tK
      obtain⟨m0,m1,z0,z1⟩:=Au (hb5.trans ((lU.out.block w.heap.size (by simp)).trans (heap_alloc_new w _)));have GZ:Hid (∀ x y,uI w ((W5.setCell ⟨w.heap.size,0,none⟩ x).setCell ⟨w.heap.size,1,none⟩ y) (.slice (some ⟨w4.heap.size,0,none⟩) 1 1) (ve (a :: c :: d :: r)).2):=fun x y=>by
       rw[HR.out];refine .one (Nat.le_of_lt tK) ?_;rw[Below.heap_setCell _ ⟨w.heap.size,1,none⟩ _ _ (by show w4.heap.size≠w.heap.size;omega),Below.heap_setCell _ ⟨w.heap.size,0,none⟩ _ _ (by show w4.heap.size≠w.heap.size;omega),kX];exact heap_alloc_new _ _
      clear kX hb5;go_wp2_with fail
      refine (PQ _ _).mono ?_;rintro e w5 ⟨rfl,rfl⟩;rw[yt.out];go_wp2
      exact bodyPost_ret (v:=.agg #[.int .i64 3,.slice (some ⟨w4.heap.size,0,none⟩) 1 1]) (by simp[results,Tryz.results66,go_sem,m0,m1]) rfl ⟨_,_,_,by rw[HR.out];rfl,GZ.out _ _,FW vL.out _ _⟩
     ·have HR:Hid (ve (a :: c :: d :: r)=(3,[⟨2,v,0⟩])):=by unfold Hid;rw[yJ.out,comes,if_neg h12,HV.out]
      obtain⟨W5,kX⟩:∃ W5,W5=w4.alloc (fF ⟨2,v,0⟩):=⟨_,rfl⟩;have yt:=hide kX.symm;have vL:Hid (Below w.heap.size w W5):=by rw[kX];exact uk.out.alloc uk.out.size _
      have hb5:W5.heap[w.heap.size]?=w4.heap[w.heap.size]?:=by rw[kX];exact Below.heap_alloc _ _ _ tK
      obtain⟨m0,m1,z0,z1⟩:=Au (hb5.trans ((lU.out.block w.heap.size (by simp)).trans (heap_alloc_new w _)));have GZ:Hid (∀ x y,uI w ((W5.setCell ⟨w.heap.size,0,none⟩ x).setCell ⟨w.heap.size,1,none⟩ y) (.slice (some ⟨w4.heap.size,0,none⟩) 1 1) (ve (a :: c :: d :: r)).2):=fun x y=>by
       rw[HR.out];refine .one (Nat.le_of_lt tK) ?_;rw[Below.heap_setCell _ ⟨w.heap.size,1,none⟩ _ _ (by show w4.heap.size≠w.heap.size;omega),Below.heap_setCell _ ⟨w.heap.size,0,none⟩ _ _ (by show w4.heap.size≠w.heap.size;omega),kX];exact heap_alloc_new _ _
      clear kX hb5;go_wp2_with fail
      refine (PR _ _).mono ?_;rintro e w5 ⟨rfl,rfl⟩;rw[yt.out];go_wp2
      exact bodyPost_ret (v:=.agg #[.int .i64 3,.slice (some ⟨w4.heap.size,0,none⟩) 1 1]) (by simp[results,Tryz.results66,go_sem,m0,m1]) rfl ⟨_,_,_,by rw[HR.out];rfl,GZ.out _ _,FW vL.out _ _⟩
  ·have e1:(a.op != c.op)=true:=by simpa using h1
   have HR:Hid (ve (a :: c :: d :: r)=(0,[])):=by unfold Hid;rw[HE.out,if_neg (fun h=>h1 h.1)]
   clear HE h1;go_enter Tryz.func66,Tryz.ntmps66
   go_upto_region 1 with fail
   go_quiet (fail)
   go_wp2
   exact bodyPost_ret (v:=.agg #[.int .i64 0,.slice none 0 0]) (by simp[results,Tryz.results66,go_sem]) rfl ⟨_,_,_,by rw[HR.out];rfl,by rw[HR.out];exact .none _ _,ll.out _ _ _⟩
theorem EN.keep {w w':World}{S F U G N:Nat}{second:Int}{first:List Int}(h:EN w S F U G N second first)(hb:Below w.heap.size w w'):EN w' S F U G N second first :=
 ⟨(hb.block _ (lt_of_block h.s)).trans h.s,(hb.block _ (lt_of_block h.f)).trans h.f,(hb.block _ (lt_of_block h.u)).trans h.u,(hb.block _ (lt_of_block h.g)).trans h.g⟩
theorem Jw (second:Int)(N G:Nat)(first:List Int)(w:World)(hg:Hid (w.heap[G]?=some (.cells (first.map (Value.int .i64)).toArray 3 (0,0)))) :
  Calls Tryz.prog 67 #[.int .i64 second,.func (.func N) #[] #[],.slice (some ⟨G,0,none⟩) first.length first.length] w fun e w'=>∃ S F U,e=.returned (.func (.func 93) #[] #[.pointer (some ⟨S,0,none⟩),.pointer (some ⟨F,0,none⟩),.pointer (some ⟨U,0,none⟩)])∧EN w' S F U G N second first∧w.heap.size≤S∧w.heap.size≤F∧w.heap.size≤U∧Below w.heap.size w w':=by
 have HP:Hid (EN (((w.alloc (.cells #[.int .i64 second] 3)).alloc (.cells #[.func (.func N) #[] #[]] 123)).alloc (.cells #[.slice (some ⟨G,0,none⟩) first.length first.length] 37)) w.heap.size (w.heap.size+1+1) (w.heap.size+1) G N second first):=by
  refine⟨?_,uU _ _ _ _,?_,?_⟩
  ·rw[Below.heap_alloc _ _ _ (by simp;omega),Below.heap_alloc _ _ _ (by simp)]
   exact heap_alloc_new _ _
  ·rw[Below.heap_alloc _ _ _ (by simp)]
   have:=heap_alloc_new (w.alloc (.cells #[.int .i64 second] 3)) (.cells #[.func (.func N) #[] #[]] 123);rw[show (w.alloc (.cells #[.int .i64 second] 3)).heap.size=w.heap.size+1 by simp] at this;exact this
  ·rw[(EM w _ _ _).block _ (lt_of_block hg.out)]
   exact hg.out
 have HB:=hide (EM w (.cells #[.int .i64 second] 3) (.cells #[.func (.func N) #[] #[]] 123) (.cells #[.slice (some ⟨G,0,none⟩) first.length first.length] 37));go_enter Tryz.func67,Tryz.ntmps67
 go_wp2
 go_ret
 exact⟨_,_,_,rfl,HP.out,Nat.le_refl _,by omega,by omega,HB.out⟩
def DY (i:Nat):Nat→List Ins→Ch:=match i with
 | 0=>fun _=>ve
 | 1=>fun _=>pair 5 Li [1,2,3]
 | 2=>fun _=>pair 6 yH [1]
 | 3=>fun _=>pair 7 ym [2]
 | 4=>fun _=>pair 22 vF [2]
 | _=>next
theorem Wy (k:Nat)(l:List Ins){i:Nat}(h:i<6):(answers k l)[i]?=some (DY i k l):=by
 rcases (by omega:i=0∨i=1∨i=2∨i=3∨i=4∨i=5) with rfl | rfl | rfl | rfl | rfl | rfl<;>rfl
structure G5 (lo hi:Nat) (w0:World) (R:Nat) (fs:List (Nat × Array Value)):Prop where
 len:fs.length=6
 blk:w0.heap[R]?=some (.cells (fs.map fun p=>Value.func (.func p.1) #[] p.2).toArray 121 (0,0))
 at':lo≤R∧R<hi
 rule:∀ (i N:Nat) (uh:Array Value),fs[i]?=some (N,uh)→GX lo hi w0 N uh (DY i)
theorem Wz (w:World) :
  Calls Tryz.prog 37 #[] w fun e w'=>∃ R fs,e=.returned (.slice (some ⟨R,0,none⟩) 6 6)∧G5 w.heap.size w'.heap.size w' R fs∧Below w.heap.size w w':=by
 go_enter Tryz.func37,Tryz.ntmps37
 have hg1:(w.alloc (.cells #[.int .i64 1,.int .i64 2,.int .i64 3] 3)).heap[w.heap.size]?=some (.cells (([1,2,3]:List Int).map (Value.int .i64)).toArray 3 (0,0)):=heap_alloc_new _ _;go_wp2_with fail
 refine (Jw 5 68 w.heap.size [1,2,3] _ (hide hg1)).mono ?_;rintro e w1 ⟨S1,F1,U1,rfl,hp1,hs1,hf1,hu1,hb1⟩;have uE:=hide hp1;have HB1:Hid (Below w.heap.size w w1):=az (fG _ _) hb1;have jg:Hid (w.heap.size≤S1∧w.heap.size≤F1∧w.heap.size≤U1):=by
  have e:(w.alloc (.cells #[.int .i64 1,.int .i64 2,.int .i64 3] 3)).heap.size=w.heap.size+1:=by simp
  rw[e] at hs1 hf1 hu1;exact⟨by omega,by omega,by omega⟩
 clear hp1 hs1 hf1 hu1 hb1 hg1;have hg2:(w1.alloc (.cells #[.int .i64 1] 3)).heap[w1.heap.size]?=some (.cells (([1]:List Int).map (Value.int .i64)).toArray 3 (0,0)):=heap_alloc_new _ _;go_wp2_with fail
 refine (Jw 6 69 w1.heap.size [1] _ (hide hg2)).mono ?_;rintro e w2 ⟨S2,F2,U2,rfl,hp2,hs2,hf2,hu2,hb2⟩;have vM:=hide hp2;have HB2:Hid (Below w1.heap.size w1 w2):=az (fG _ _) hb2;have HS2:Hid (w1.heap.size≤S2∧w1.heap.size≤F2∧w1.heap.size≤U2):=by
  have e:(w1.alloc (.cells #[.int .i64 1] 3)).heap.size=w1.heap.size+1:=by simp
  rw[e] at hs2 hf2 hu2;exact⟨by omega,by omega,by omega⟩
 clear hp2 hs2 hf2 hu2 hb2 hg2;have hg3:(w2.alloc (.cells #[.int .i64 2] 3)).heap[w2.heap.size]?=some (.cells (([2]:List Int).map (Value.int .i64)).toArray 3 (0,0)):=heap_alloc_new _ _;go_wp2_with fail
 refine (Jw 7 71 w2.heap.size [2] _ (hide hg3)).mono ?_;rintro e w3 ⟨S3,F3,U3,rfl,hp3,hs3,hf3,hu3,hb3⟩;have Jy:=hide hp3;have HB3:Hid (Below w2.heap.size w2 w3):=az (fG _ _) hb3;have jD:Hid (w2.heap.size≤S3∧w2.heap.size≤F3∧w2.heap.size≤U3):=by
  have e:(w2.alloc (.cells #[.int .i64 2] 3)).heap.size=w2.heap.size+1:=by simp
  rw[e] at hs3 hf3 hu3;exact⟨by omega,by omega,by omega⟩
 clear hp3 hs3 hf3 hu3 hb3 hg3;have hg4:(w3.alloc (.cells #[.int .i64 2] 3)).heap[w3.heap.size]?=some (.cells (([2]:List Int).map (Value.int .i64)).toArray 3 (0,0)):=heap_alloc_new _ _;go_wp2_with fail
 refine (Jw 22 73 w3.heap.size [2] _ (hide hg4)).mono ?_;rintro e w4 ⟨S4,F4,U4,rfl,G6,hs4,PV,PW,hb4⟩;have zw:=hide G6;have uk:Hid (Below w3.heap.size w3 w4):=az (fG _ _) hb4;have PX:Hid (w3.heap.size≤S4∧w3.heap.size≤F4∧w3.heap.size≤U4):=by
  have e:(w3.alloc (.cells #[.int .i64 2] 3)).heap.size=w3.heap.size+1:=by simp
  rw[e] at hs4 PV PW;exact⟨by omega,by omega,by omega⟩
 clear G6 hs4 PV PW hb4 hg4;have L1:=HB1.out.size;have L2:=HB2.out.size;have L3:=HB3.out.size;have L4:=uk.out.size;obtain⟨fs,hfs⟩:∃ fs:List (Nat × Array Value),fs=[(66,#[]),(93,#[.pointer (some ⟨S1,0,none⟩),.pointer (some ⟨F1,0,none⟩),.pointer (some ⟨U1,0,none⟩)]),(93,#[.pointer (some ⟨S2,0,none⟩),.pointer (some ⟨F2,0,none⟩),.pointer (some ⟨U2,0,none⟩)]),(93,#[.pointer (some ⟨S3,0,none⟩),.pointer (some ⟨F3,0,none⟩),.pointer (some ⟨U3,0,none⟩)]),(93,#[.pointer (some ⟨S4,0,none⟩),.pointer (some ⟨F4,0,none⟩),.pointer (some ⟨U4,0,none⟩)]),(74,#[])]:=⟨_,rfl⟩;obtain⟨W,hW⟩:∃ W,W=w4.alloc (.cells (fs.map fun p=>Value.func (.func p.1) #[] p.2).toArray 121):=⟨_,rfl⟩;have hbW:Below w4.heap.size w4 W:=by rw[hW];exact fG _ _
 have WA:W.heap.size=w4.heap.size+1:=by rw[hW];simp
 have PY:W.heap[w4.heap.size]?=some (.cells (fs.map fun p=>Value.func (.func p.1) #[] p.2).toArray 121 (0,0)):=by rw[hW];exact heap_alloc_new _ _
 have P4:=zw.out.keep hbW;have P3:=(Jy.out.keep uk.out).keep hbW;have P2:=((vM.out.keep HB3.out).keep uk.out).keep hbW;have P1:=(((uE.out.keep HB2.out).keep HB3.out).keep uk.out).keep hbW;have uF:Hid (Below w.heap.size w W):=az (az (az (az HB1.out HB2.out) HB3.out) uk.out) hbW;have key:∀ {S F U G N:Nat} {second:Int} {first:List Int} {put:Ins→Ins→List Ins} (V:World),EN W S F U G N second first→V.heap.size≤S∧V.heap.size≤F∧V.heap.size≤U→G=V.heap.size→w.heap.size≤V.heap.size→first.length≤3→FV N put→GX w.heap.size W.heap.size W 93 #[.pointer (some ⟨S,0,none⟩),.pointer (some ⟨F,0,none⟩),.pointer (some ⟨U,0,none⟩)] (fun _=>pair second put first):=fun V hP hs hG hV hf hN=>by
  have a1:=lt_of_block hP.s;have a2:=lt_of_block hP.f;have a3:=lt_of_block hP.u;have a4:=lt_of_block hP.g;exact Ws _ _ W _ _ _ _ _ _ _ _ hf hP ⟨by omega,a1⟩ ⟨by omega,a2⟩ ⟨by omega,a3⟩ ⟨by omega,a4⟩ hN
 have R1:=key w P1 jg.out rfl (Nat.le_refl _) (by decide) V6;have R2:=key w1 P2 HS2.out rfl L1 (by decide) V7;have R3:=key w2 P3 jD.out rfl (Nat.le_trans L1 L2) (by decide) V8;have R4:=key w3 P4 PX.out rfl (Nat.le_trans (Nat.le_trans L1 L2) L3) (by decide) V9;have HR:Hid (G5 w.heap.size W.heap.size W w4.heap.size fs):=by
  refine⟨by rw[hfs];rfl,PY,⟨by omega,by omega⟩,fun i N uh h=>?_⟩;rw[hfs] at h;rcases (by have:=(List.getElem?_eq_some_iff.1 h).1;simp at this;omega:i=0∨i=1∨i=2∨i=3∨i=4∨i=5) with rfl | rfl | rfl | rfl | rfl | rfl
  ·cases h;exact Lx _ _ _
  ·cases h;exact R1
  ·cases h;exact R2
  ·cases h;exact R3
  ·cases h;exact R4
  ·cases h;exact Wh _ _ _
 have HE:Hid (W=w4.alloc (.cells #[.func (.func 66) #[] #[],.func (.func 93) #[] #[.pointer (some ⟨S1,0,none⟩),.pointer (some ⟨F1,0,none⟩),.pointer (some ⟨U1,0,none⟩)],.func (.func 93) #[] #[.pointer (some ⟨S2,0,none⟩),.pointer (some ⟨F2,0,none⟩),.pointer (some ⟨U2,0,none⟩)],.func (.func 93) #[] #[.pointer (some ⟨S3,0,none⟩),.pointer (some ⟨F3,0,none⟩),.pointer (some ⟨U3,0,none⟩)],.func (.func 93) #[] #[.pointer (some ⟨S4,0,none⟩),.pointer (some ⟨F4,0,none⟩),.pointer (some ⟨U4,0,none⟩)],.func (.func 74) #[] #[]] 121)):=by
  unfold Hid;rw[hW,hfs];rfl
 clear R1 R2 R3 R4 key P1 P2 P3 P4 PY hbW WA hW hfs uE vM Jy zw HB1 HB2 HB3 uk jg HS2 jD PX;go_wp2
 go_ret
 exact⟨w4.heap.size,fs,rfl,by rw[← HE.out];exact HR.out,by rw[← HE.out];exact uF.out⟩
end Go.Proofs.YtbdpdjcdhclbfaaGreat.Ow
