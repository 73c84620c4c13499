/- The walks of push,pop,takeOne,put. -/
import Derived.Test.YtbdpdjcdhclbfaaGreatM1
set_option maxRecDepth 100000
set_option maxHeartbeats 2000000
namespace Go.Proofs.YtbdpdjcdhclbfaaGreat
open Go.RowKit
structure ay (c:FC) (F:Nat) (f:Vf.Fl) (n:Int) (row:Value) (r:Except Int (List Int)) (w:World) (e:Ending) (w':World):Prop where
 grown:w.grownBy w' (some F)
 no:∀ er,r=.error er→e=.panicked [lT er n]
 yes:∀ st,r=.ok st→e=.returned (.tuple #[])∧∃ top,aB c w' F top st f n row
theorem ay.bad {c:FC}{F:Nat}{f:Vf.Fl}{n:Int}{row:Value}{r:Except Int (List Int)}{w w':World}{er:Int}(hg:w.grownBy w' (some F))(hr:r=.error er):ay c F f n row r w (.panicked [lT er n]) w' :=
 ⟨hg,fun u7 e=>(by rw[hr] at e;cases e;rfl),fun st e=>(by rw[hr] at e;cases e)⟩
theorem ay.good {c:FC}{F:Nat}{f:Vf.Fl}{n:Int}{row:Value}{r:Except Int (List Int)}{w w':World}{st:List Int}{top:Option Addr}(hg:w.grownBy w' (some F))(hr:r=.ok st)(hF:aB c w' F top st f n row):ay c F f n row r w (.returned (.tuple #[])) w' :=
 ⟨hg,fun u7 e=>(by rw[hr] at e;cases e),fun st e=>(by rw[hr] at e;cases e;exact⟨rfl,top,hF⟩)⟩
theorem O0 {c:FC}{w:World}{F:Nat}{top rU:Option Addr}{st st':List Int}{f:Vf.Fl}{n:Int}{row:Value}(h:w.heap[F]?=some (vE c top st f n row)) :
  ((w.setCell ⟨F,8,none⟩ (.pointer rU)).setCell ⟨F,9,none⟩ (.int .i64 (st'.length:Int))).heap[F]?=some (vE c rU st' f n row):=by
 simp only[World.setCell,Array.getElem?_modify,if_true,h,Option.map_some];rfl
theorem wI {w w':World}{F:Nat}(h:w.grownBy w' (some F))(o:Nat)(v:Value):w.grownBy (w'.setCell ⟨F,o,none⟩ v) (some F) :=
 ⟨h.os,h.tape,h.output,by have:=h.size;simp[World.setCell];omega,fun k hk hne=>by
  rw[Below.heap_setCell _ ⟨F,o,none⟩ _ _ (by intro e;exact hne (by rw[e]))];exact h.block k hk hne⟩
theorem wJ {w w':World}{F:Option Nat}(h:w.grownBy w' F):w.grownBy w'.drew F:=⟨h.os,h.tape,h.output,h.size,h.block⟩
theorem aB.drew {c:FC}{w:World}{F:Nat}{top:Option Addr}{st:List Int}{f:Vf.Fl}{n:Int}{row:Value}(h:aB c w F top st f n row):aB c w.drew F top st f n row:=⟨h.blk,h.sk.keep fun _ _ hb=>hb⟩
abbrev Vn (t:Int) (top:Option Addr):Obj:=.cells #[.int .i64 t,.pointer top] 148 (0,0)
theorem Vo (c:FC)(F:Nat)(top:Option Addr)(st:List Int)(f:Vf.Fl)(n:Int)(row:Value)(t:Int)(w:World)(h:Hid (aB c w F top st f n row))(hl:st.length<1000) :
  Calls Tryz.prog 95 #[.pointer (some ⟨F,8,none⟩),.int .i64 t] w fun e w'=>e=.returned (.tuple #[])∧w.grownBy w' (some F)∧∃ rU,aB c w' F rU (t :: st) f n row:=by
 obtain⟨c8,c9,f8,f9⟩:=zq h.out.blk;have hlt:=lt_of_block h.out.blk;have e1:IntKind.i64.wrap ((st.length:Int)+1)=(st.length:Int)+1:=by simp[IntKind.wrap,IntKind.bits,IntKind.signed];omega
 go_enter Tryz.func95,Tryz.ntmps95
 go_wp2
 go_region
 all_goals
  go_wp2
  go_end0
  have hb2:=O0 (st':=t :: st) (rU:=some ⟨w.heap.size,0,none⟩) h.out.blk;have hz:((w.setCell ⟨F,8,none⟩ (.pointer (some ⟨w.heap.size,0,none⟩))).setCell ⟨F,9,none⟩ (.int .i64 ((st.length:Int)+1))).heap.size=w.heap.size:=by simp[World.setCell]
  have hg:=wI (wI (ui w F) 8 (.pointer (some ⟨w.heap.size,0,none⟩))) 9 (.int .i64 ((st.length:Int)+1));refine⟨rfl,wJ (tJ hg _),some ⟨w.heap.size,0,none⟩,aB.drew ⟨?_,?_⟩⟩
  ·rw[Below.heap_alloc _ _ _ (by rw[hz];exact hlt)]
   exact hb2
  ·refine⟨w.heap.size,top,rfl,?_,h.out.sk.grown (tJ hg _) h.out.blk⟩
   have:=heap_alloc_new ((w.setCell ⟨F,8,none⟩ (.pointer (some ⟨w.heap.size,0,none⟩))).setCell ⟨F,9,none⟩ (.int .i64 ((st.length:Int)+1))) (Vn t top);rw[hz] at this;exact this
theorem Vp (c:FC)(F:Nat)(top:Option Addr)(t:Int)(st:List Int)(f:Vf.Fl)(n:Int)(row:Value)(w:World)(h:Hid (aB c w F top (t :: st) f n row))(hl:st.length<1000) :
  Calls Tryz.prog 96 #[.pointer (some ⟨F,8,none⟩)] w fun e w'=>e=.returned (.int .i64 t)∧w.grownBy w' (some F)∧∃ rU,aB c w' F rU st f n row:=by
 obtain⟨c8,c9,f8,f9⟩:=zq h.out.blk;have hlt:=lt_of_block h.out.blk;obtain⟨b,below,rfl,hb,hr⟩:=h.out.sk;have d0:w.cell? ⟨b,0,none⟩=some (.int .i64 t):=by simp[World.cell?,hb]
 have d1:w.cell? ⟨b,1,none⟩=some (.pointer below):=by simp[World.cell?,hb]
 have HR:=hide hr;clear hb hr;go_enter Tryz.func96,Tryz.ntmps96
 go_wp2
 go_region
 all_goals
  go_wp2
  go_ret
  have hb2:=O0 (st':=st) (rU:=below) h.out.blk;have hg:=wI (wI (ui w F) 8 (.pointer below)) 9 (.int .i64 (st.length:Int));exact⟨rfl,wJ hg,below,aB.drew ⟨hb2,HR.out.grown hg h.out.blk⟩⟩
structure zt (c:FC) (F:Nat) (f:Vf.Fl) (n:Int) (row:Value) (r:Except Int (Int × List Int)) (w:World) (e:Ending) (w':World):Prop where
 grown:w.grownBy w' (some F)
 no:∀ er,r=.error er→e=.panicked [lT er n]
 yes:∀ t st,r=.ok (t,st)→e=.returned (.int .i64 t)∧∃ top,aB c w' F top st f n row
theorem zt.bad {c:FC}{F:Nat}{f:Vf.Fl}{n:Int}{row:Value}{r:Except Int (Int × List Int)}{w w':World}{er:Int}(hg:w.grownBy w' (some F))(hr:r=.error er):zt c F f n row r w (.panicked [lT er n]) w' :=
 ⟨hg,fun u7 e=>(by rw[hr] at e;cases e;rfl),fun _ _ e=>(by rw[hr] at e;cases e)⟩
theorem zt.good {c:FC}{F:Nat}{f:Vf.Fl}{n:Int}{row:Value}{r:Except Int (Int × List Int)}{w w':World}{t:Int}{st:List Int}{top:Option Addr}(hg:w.grownBy w' (some F))(hr:r=.ok (t,st))(hF:aB c w' F top st f n row):zt c F f n row r w (.returned (.int .i64 t)) w' :=
 ⟨hg,fun u7 e=>(by rw[hr] at e;cases e),fun t' st' e=>(by rw[hr] at e;cases e;exact⟨rfl,top,hF⟩)⟩
theorem GL (c:FC)(F:Nat)(top:Option Addr)(st:List Int)(f:Vf.Fl)(n:Int)(row:Value)(w:World)(h:Hid (aB c w F top st f n row))(hl:st.length<1000)(r:Except Int (Int × List Int))(hr:Hid (r=Vf.pop st)) :
  Calls Tryz.prog 85 #[.pointer (some ⟨F,0,none⟩)] w fun e w'=>zt c F f n row r w e w':=by
 obtain⟨c8,c9,f8,f9⟩:=zq h.out.blk;obtain⟨c14,_⟩:=uD h.out.blk;clear f8 f9;cases st with
 | nil =>
  have HR:Hid (r=.error 12):=hr.out;clear hr;go_enter Tryz.func85,Tryz.ntmps85
  go_wp2_with fail
  refine (uj F false 12 n _ c14).mono ?_;rintro e w1 ⟨he,rfl⟩;obtain rfl:e=.panicked [lT 12 n]:=he;go_wp2
  exact⟨rfl,zt.bad (ui _ _) HR.out⟩
 | cons t st =>
  have HR:Hid (r=.ok (t,st)):=hr.out;have hd:decide ((0:Int)<((t :: st).length:Int))=true:=by simp
  clear hr;go_enter Tryz.func85,Tryz.ntmps85
  go_wp2_with fail
  refine (uj F true 12 n _ c14).mono ?_;rintro e w1 ⟨he,rfl⟩;obtain rfl:e=.returned (.tuple #[]):=he;clear c8 c9 c14;go_wp2_with fail
  refine (Vp c F top t st f n row _ h (by simp at hl;omega)).mono ?_;rintro e w2 ⟨rfl,hg,rU,hF⟩;have HE:Hid (zt c F f n row r w1 (.returned (.int .i64 t)) w2):=zt.good hg HR.out hF;clear hg hF;go_wp2
  go_ret
  exact HE.out
theorem EC (c:FC)(F:Nat)(top:Option Addr)(st:List Int)(f:Vf.Fl)(n:Int)(row:Value)(t:Int)(w:World)(h:Hid (aB c w F top st f n row))(hl:st.length<1000)(r:Except Int (List Int))(hr:Hid (r=Vf.put t st)) :
  Calls Tryz.prog 81 #[.pointer (some ⟨F,0,none⟩),.int .i64 t] w fun e w'=>ay c F f n row r w e w':=by
 go_enter Tryz.func81,Tryz.ntmps81
 go_wp2_with fail
 refine (Vo c F top st f n row t _ h hl).mono ?_;rintro e w1 ⟨rfl,hg,rU,hF⟩;obtain⟨c8,c9,f8,f9⟩:=zq hF.blk;obtain⟨c14,_⟩:=uD hF.blk;have HG:=hide hg;have HF:=hide hF;obtain⟨d,hd0⟩:∃ d:Int,d=((t :: st).length:Int):=⟨_,rfl⟩;rw[← hd0] at c9;have hd1:d=(st.length:Int)+1:=by rw[hd0];simp
 clear hg hF c8 f8 f9 hd0;by_cases hs:st.length+1≤300
 ·have hd:decide (d≤300)=true:=by simp;omega
  clear hd1;have HR:Hid (r=.ok (t :: st)):=by rw[hr.out,Vf.put,if_pos hs];rfl
  go_wp2_with fail
  refine (uj F true 4 n _ c14).mono ?_;rintro e w2 ⟨he,rfl⟩;obtain rfl:e=.returned (.tuple #[]):=he;clear c9 c14;go_wp2
  go_end0
  exact ay.good HG.out HR.out HF.out
 ·have hd:decide (d≤300)=false:=by simp;omega
  clear hd1;have HR:Hid (r=.error 4):=by rw[hr.out,Vf.put,if_neg hs];rfl
  go_wp2_with fail
  refine (uj F false 4 n _ c14).mono ?_;rintro e w2 ⟨he,rfl⟩;obtain rfl:e=.panicked [lT 4 n]:=he;clear c9 c14;go_wp2
  exact⟨rfl,ay.bad HG.out HR.out⟩
theorem yg (t:Int)(w:World)(b:Bool)(hb:Hid (b=Vf.plain t)) :
  Calls Tryz.prog 27 #[.int .i64 t] w fun e w'=>e=.returned (.bool b)∧w'=w:=by
 rw[hb.out];unfold Vf.plain;clear hb;by_cases h1:t=1
 ·have e1:(t==1)=true:=by simpa using h1
  go_enter Tryz.func27,Tryz.ntmps27
  go_wp2
  go_ret
  rw[e1];exact⟨rfl,rfl⟩
 ·have e1:(t==1)=false:=by simpa using h1
  go_enter Tryz.func27,Tryz.ntmps27
  go_wp2
  go_ret
  rw[e1];exact⟨rfl,rfl⟩
structure GM (c:FC) (F:Nat) (f:Vf.Fl) (n:Int) (row:Value) (l:List Int) (r:Except Int (List Int)) (w:World) (i:Nat) (W:World):Prop where
 le:i≤l.length
 grown:w.grownBy W (some F)
 fl:∃ top st,aB c W F top st f n row∧st.length<1000∧r=Vf.jy (l.take i).reverse st
theorem GM.mk' {c:FC}{F:Nat}{f:Vf.Fl}{n:Int}{row:Value}{l:List Int}{r:Except Int (List Int)}{w W:World}{i:Nat}{top:Option Addr}{st:List Int}(h1:i≤l.length)(h2:w.grownBy W (some F))(h3:aB c W F top st f n row)(h4:st.length<1000)(h5:r=Vf.jy (l.take i).reverse st):GM c F f n row l r w i W:=⟨h1,h2,top,st,h3,h4,h5⟩
theorem Vq {l:List Int}{i:Nat}{x:Int}(h:l[i]?=some x):(l.take (i+1)).reverse=x :: (l.take i).reverse:=by
 obtain⟨hi,rfl⟩:=List.getElem?_eq_some_iff.1 h;rw[List.take_succ_eq_append_getElem hi];simp
theorem IntsIn.cell {B:Nat}{w:World}{l:List Int}{a:Option Addr}(h:IntsIn B w l a){i:Nat}{x:Int}(hx:l[i]?=some x):∃ b off,a=some ⟨b,off,none⟩∧b<B∧w.cell? ⟨b,off+i,none⟩=some (.int .i64 x):=(h i x hx).2
theorem O1 (c:FC)(F B:Nat)(top:Option Addr)(st:List Int)(f:Vf.Fl)(n:Int)(row:Value)(l:List Int)(a:Option Addr)(cp:Nat)(w:World)(h:Hid (aB c w F top st f n row))(hl:st.length<1000)(hll:l.length<1000)(hin:Hid (IntsIn B w l a))(hB:B≤w.heap.size)(La:Hid (∀ b off,a=some ⟨b,off,none⟩→b<B→b≠F))(r:Except Int (List Int))(hr:Hid (r=Vf.jy l.reverse st)) :
  Calls Tryz.prog 84 #[.pointer (some ⟨F,0,none⟩),.slice a l.length cp] w fun e w'=>ay c F f n row r w e w':=by
 go_enter Tryz.func84,Tryz.ntmps84
 go_wp2
 go_loopw [4] (fun v wr=>∃ i:Nat,v=.int .i64 ((i:Int) - 1)∧GM c F f n row l r w i wr) (fun v _=>(intOf v+1).toNat)
 case atStart=>exact⟨l.length,by go_num,GM.mk' (Nat.le_refl _) (ui _ _) h.out hl (by rw[List.take_length];exact hr.out)⟩
 case round =>
  obtain⟨i,rfl,hA⟩:=hrel;obtain⟨hle,hg,lv,st1,hF,hl1,hr1⟩:=hA;have HG:=hide hg;have HF:=hide hF;have HR1:=hide hr1;clear hg hF hr1;by_cases hi:i=0
  ·subst hi
   have HE:Hid (r=.ok st1):=by unfold Hid;rw[HR1.out];simp[Vf.jy]
   have hd:decide ((0:Int)≤((0:Nat):Int) - 1)=false:=by decide
   go_wp2
   go_end0
   exact ay.good HG.out HE.out HF.out
  ·obtain⟨j,rfl⟩:∃ j,i=j+1:=⟨i - 1,by omega⟩
   obtain⟨x,hx⟩:∃ x,l[j]?=some x:=⟨_,List.getElem?_eq_getElem (by omega)⟩;have hlow:∀ b,b<B→b≠F→wr.heap[b]?=w.heap[b]?:=fun b hb hne=>HG.out.block b (by omega) (by simp;omega);obtain⟨b,off,ha,hb,O3⟩:=hin.out.cell hx;have Vr:=La.out b off ha hb;have cx:wr.cell? ⟨b,off+j,none⟩=some (.int .i64 x):=(gZ (hlow b hb Vr) _).trans O3;subst ha;have Lb:Hid (r=Vf.jy (x :: (l.take j).reverse) st1):=by unfold Hid;rw[HR1.out,Vq hx]
   have HX:=hide hx;have HL:=hide hlow;have ez:(((j+1:Nat):Int) - 1)=(j:Int):=by omega
   rw[ez];have hd:decide ((0:Int)≤(j:Int))=true:=by simp
   have hj1:(j:Int)<(l.length:Int):=by omega
   clear O3 HR1 hx hlow ez;go_wp2_with fail
   refine wp_region_held_drew (S:=fun w'=>w'.cell? ⟨b,off+j,none⟩=some (.int .i64 x)) (by kernel_rfl) cx (fun hHeld=>?_);refine wpAnyH_take (i:=0) (oi:=_) (v:=?_) rfl (by kernel_rfl) (by kernel_rfl) (by kernel_rfl) (fun _ _ _ h=>h) (Or.inl ⟨by rfl,?_⟩) (by assumption) ?_;rotate_left
   ·intro w hSw
    (try dsimp only at hSw)
    go_simp
    (try with_reducible rfl)
   refine wpAnyH_take (i:=1) (oi:=_) (v:=?_) rfl (by kernel_rfl) (by kernel_rfl) (by kernel_rfl) (fun _ _ _ h=>h) (Or.inl ⟨by rfl,?_⟩) (by assumption) ?_;rotate_left
   ·intro w hSw
    (try dsimp only at hSw)
    go_simp
    (try with_reducible rfl)
   refine wpAnyH_take (i:=3) (oi:=_) (v:=?_) rfl (by kernel_rfl) (by kernel_rfl) (by kernel_rfl) (fun _ _ _ h=>h) (Or.inl ⟨by rfl,?_⟩) (by assumption) ?_;rotate_left
   ·intro w hSw
    (try dsimp only at hSw)
    go_simp
    (try with_reducible rfl)
   refine wpAnyH_take (i:=4) (oi:=_) (v:=?_) rfl (by kernel_rfl) (by kernel_rfl) (by kernel_rfl) (fun _ _ _ h=>h) (Or.inl ⟨by rfl,?_⟩) (by assumption) ?_;rotate_left
   ·intro w hSw
    (try dsimp only at hSw)
    go_simp
    (try with_reducible rfl)
   refine wpAnyH_take (i:=5) (oi:=_) (v:=?_) rfl (by kernel_rfl) (by kernel_rfl) (by kernel_rfl) (fun _ _ _ h=>h) (Or.inl ⟨by rfl,?_⟩) (by assumption) ?_;rotate_left
   ·intro w hSw
    (try dsimp only at hSw)
    go_simp
    (try with_reducible rfl)
   refine wpAnyH_take (i:=6) (oi:=_) (v:=?_) rfl (by kernel_rfl) (by kernel_rfl) (by kernel_rfl) (fun _ _ _ h=>h) (Or.inl ⟨by rfl,?_⟩) (by assumption) ?_;rotate_left
   ·intro w hSw
    (try dsimp only at hSw)
    go_simp
    (try with_reducible rfl)
   refine wpAnyH_ready (rs:=[2]) (by kernel_rfl) (by simp) ?_;refine AllReadyH.cons (o:=_) rfl (fun K hK=>?_) AllReadyH.nil;go_simp
   refine (GL c F lv st1 f n row _ (hide HF.out.drew) hl1 (Vf.pop st1) (hide rfl)).mono ?_;rintro e w2 hV;have HG2:Hid (w.grownBy w2 (some F)):=iC HG.out (uT hV.grown);cases st1 with
   | nil =>
    obtain rfl:=hV.no 12 rfl;have HE:Hid (r=.error 12):=Lb.out;clear hV hK;go_wp2
    exact⟨rfl,ay.bad HG2.out HE.out⟩
   | cons y st2 =>
    obtain⟨rfl,ED,hF2⟩:=hV.yes y st2 rfl;have sj:=hide hF2;have hl2:st2.length<1000:=by simp at hl1;omega
    have c14:=(uD hF2.blk).1;have O4:w2.cell? ⟨b,off+j,none⟩=some (.int .i64 x):=by
     rw[← cx];exact gZ ((uT hV.grown).block b (by have:=HG.out.size;omega) (by simp;omega)) _
    clear hV hF2;refine hK.out _ _ O4 (fun hHeld=>?_);clear hK;refine wpAnyH_take (i:=7) (oi:=_) (v:=?_) rfl (by kernel_rfl) (by kernel_rfl) (by kernel_rfl) (fun _ _ _ h=>h) (Or.inl ⟨by rfl,?_⟩) (by assumption) ?_;rotate_left
    ·intro w hSw
     (try dsimp only at hSw)
     go_simp
     (try with_reducible rfl)
    refine wpAnyH_ready (rs:=[8]) (by kernel_rfl) (by simp) ?_;refine AllReadyH.cons (o:=_) rfl (fun K hK=>?_) AllReadyH.nil;go_simp
    by_cases hyx:y=x
    ·have e1:(y==x)=true:=by simpa using hyx
     rw[e1];have Vs:Hid (r=Vf.jy (l.take j).reverse st2):=by unfold Hid;rw[Lb.out,Vf.jy,if_pos hyx]
     refine (uj F true 9 n _ c14).mono ?_;rintro e w3 ⟨he,rfl⟩;obtain rfl:e=.returned (.tuple #[]):=he;refine hK.out _ _ O4 (fun hHeld=>?_);clear hK;refine wpAnyH_done (by kernel_rfl) ?_ _;go_wp2
     go_roundw
     case rel=>exact⟨j,by go_num,GM.mk' (by omega) HG2.out sj.out hl2 Vs.out⟩
     case measure=>simp[intOf]
    ·have e1:(y==x)=false:=by simpa using hyx
     rw[e1];have HE:Hid (r=.error 9):=by unfold Hid;rw[Lb.out,Vf.jy,if_neg hyx]
     refine (uj F false 9 n _ c14).mono ?_;rintro e w3 ⟨he,rfl⟩;obtain rfl:e=.panicked [lT 9 n]:=he;clear hK;go_wp2
     exact⟨rfl,ay.bad HG2.out HE.out⟩
theorem O5 {q B:Nat}{w:World}{l:List Int}{fr:Nat × Nat}(hq:w.heap[q]?=some (.cells (l.map (Value.int .i64)).toArray 3 fr))(hB:q<B)(h64:∀ x ∈ l,dA x):IntsIn B w l (some ⟨q,0,none⟩):=fun i x hx=>by
 refine⟨h64 x (List.mem_of_getElem? hx),q,0,rfl,hB,?_⟩;simp[World.cell?,hq,hx]
theorem Lc (c:FC)(F B:Nat)(top:Option Addr)(st:List Int)(f:Vf.Fl)(n:Int)(row:Value)(t:Int)(l:List Int)(a:Option Addr)(cp:Nat)(w:World)(h:Hid (aB c w F top st f n row))(hl:st.length<900)(hll:l.length<1000)(hin:Hid (IntsIn B w l a))(hB:B≤w.heap.size)(La:Hid (∀ b off,a=some ⟨b,off,none⟩→b<B→b≠F))(r:Except Int (List Int))(hr:Hid (r=Vf.turn t l st)) :
  Calls Tryz.prog 86 #[.pointer (some ⟨F,0,none⟩),.int .i64 t,.slice a l.length cp] w fun e w'=>ay c F f n row r w e w':=by
 obtain⟨r1,hr1⟩:∃ r1,r1=Vf.jy l.reverse st:=⟨_,rfl⟩;have HR1:=hide hr1;have HR:Hid (r=Vf.andThen r1 (Vf.put t)):=by unfold Hid;rw[hr.out,hr1];rfl
 have BG:Hid (∀ st',r1=.ok st'→st'.length<1000):=fun st' e=>by
  have:∀ (ts st st':List Int),Vf.jy ts st=.ok st'→st'.length≤st.length:=by
   intro ts;induction ts with
   | nil=>intro st st' e;cases e;exact Nat.le_refl _
   | cons t ts ih =>
    intro st st' e;cases st with
    | nil=>cases e
    | cons x st =>
     unfold Vf.jy at e;split at e
     ·have:=ih _ _ e;simp;omega
     ·cases e
  have:=this _ _ _ (hr1.symm.trans e);omega
 clear hr hr1;go_enter Tryz.func86,Tryz.ntmps86
 go_wp2_with fail
 refine (O1 c F B top st f n row l a cp _ h (by omega) hll hin hB La r1 HR1).mono ?_;rintro e w1 hS;cases r1 with
 | error er =>
  obtain rfl:=hS.no er rfl;have HG:=hide hS.grown;have HE:Hid (r=.error er):=HR.out;clear hS;go_wp2
  exact⟨rfl,ay.bad HG.out HE.out⟩
 | ok st1 =>
  obtain⟨rfl,lv,hF1⟩:=hS.yes st1 rfl;have HG:=hide hS.grown;have fE:=hide hF1;have hl1:=BG.out st1 rfl;clear hS hF1;go_wp2_with fail
  refine (EC c F lv st1 f n row t _ fE hl1 r HR).mono ?_;rintro e w2 hS;have HG2:Hid (w.grownBy w2 (some F)):=iC HG.out hS.grown;cases r with
  | error er =>
   obtain rfl:=hS.no er rfl;clear hS;go_wp2
   exact⟨rfl,ay.bad HG2.out rfl⟩
  | ok st2 =>
   obtain⟨rfl,ED,hF2⟩:=hS.yes st2 rfl;have sj:=hide hF2;clear hS hF2;go_wp2
   go_end0
   exact ay.good HG2.out rfl sj.out
theorem Ld (c:FC)(F:Nat)(top:Option Addr)(st:List Int)(f:Vf.Fl)(n:Int)(row:Value)(w:World)(h:Hid (aB c w F top st f n row))(hl:st.length<1000)(r:Except Int (Int × List Int))(hr:Hid (r=Vf.yf st)) :
  Calls Tryz.prog 87 #[.pointer (some ⟨F,0,none⟩)] w fun e w'=>zt c F f n row r w e w':=by
 go_enter Tryz.func87,Tryz.ntmps87
 go_wp2_with fail
 refine (GL c F top st f n row _ h hl (Vf.pop st) (hide rfl)).mono ?_;rintro e w1 hV;have HG:=hide hV.grown;cases st with
 | nil =>
  obtain rfl:=hV.no 12 rfl;have HE:Hid (r=.error 12):=hr.out;clear hV;go_wp2
  exact⟨rfl,zt.bad HG.out HE.out⟩
 | cons t st1 =>
  obtain⟨rfl,lv,hF1⟩:=hV.yes t st1 rfl;have fE:=hide hF1;have c14:=(uD hF1.blk).1;have HR:Hid (r=if Vf.plain t=true then .ok (t,st1) else .error 9):=hr.out;obtain⟨b,hb⟩:∃ b,b=Vf.plain t:=⟨_,rfl⟩;rw[← hb] at HR;have HB:=hide hb;clear hV hF1 hb hr;go_wp2_with fail
  refine (yg t _ b HB).mono ?_;rintro e w2 ⟨rfl,rfl⟩;go_wp2_with fail
  refine (uj F b 9 n _ c14).mono ?_;rintro e w3 ⟨he,rfl⟩;cases b
  ·obtain rfl:e=.panicked [lT 9 n]:=he
   have HE:Hid (r=.error 9):=HR.out;clear c14;go_wp2
   exact⟨rfl,zt.bad HG.out HE.out⟩
  ·obtain rfl:e=.returned (.tuple #[]):=he
   have HE:Hid (r=.ok (t,st1)):=HR.out;clear c14;go_wp2
   go_ret
   exact zt.good HG.out HE.out fE.out
abbrev O6 (u:Vf.Un) (al ac:Option Addr) (cl cc:Nat):Value:=.agg #[.int .i64 u.kind,.int .i64 u.params,.slice al u.locals.length cl,.int .i64 u.result,.int .i64 u.takes,.slice ac u.code.length cc]
abbrev gP (u:Vf.Un) (al ac:Option Addr) (cl cc:Nat):Obj:=.cells #[.int .i64 u.kind,.int .i64 u.params,.slice al u.locals.length cl,.int .i64 u.result,.int .i64 u.takes,.slice ac u.code.length cc] 40 (0,0)
abbrev Z6:Obj:=.cells #[.int .i64 0,.int .i64 0,.slice none 0 0,.int .i64 0,.int .i64 0,.slice none 0 0] 40 (0,0)
theorem zO {w:World}{N:Nat}{a b c d e f:Value}(h:w.heap[N]?=some (.cells #[a,b,c,d,e,f] 40 (0,0))) :
  w.cell? ⟨N,0,none⟩=some a∧w.cell? ⟨N,1,none⟩=some b∧w.cell? ⟨N,2,none⟩=some c∧w.cell? ⟨N,3,none⟩=some d∧w.cell? ⟨N,4,none⟩=some e∧w.cell? ⟨N,5,none⟩=some f:=by
 simp[World.cell?,h]
theorem Vt {w:World}{N:Nat}{a b c d e f:Value}(h:w.heap[N]?=some (.cells #[a,b,c,d,e,f] 40 (0,0))) :
  w.frozen? ⟨N,0,none⟩=false∧w.frozen? ⟨N,1,none⟩=false∧w.frozen? ⟨N,2,none⟩=false∧w.frozen? ⟨N,3,none⟩=false∧w.frozen? ⟨N,4,none⟩=false∧w.frozen? ⟨N,5,none⟩=false:=by
 simp[World.frozen?,h]
structure Env (c:FC) (B F:Nat) (w:World):Prop where
 md:aD B w c.m c.ab c.au
 un:ig B w c.u c.al c.ac c.cl c.cc
 base:B≤F
 lt:F<w.heap.size
theorem Env.grown {c:FC}{B F:Nat}{w w':World}(h:Env c B F w)(hg:w.grownBy w' (some F)):Env c B F w' :=
 ⟨h.md.low (K9 hg h.base h.lt),h.un.low (K9 hg h.base h.lt),h.base,by have:=hg.size;have:=h.lt;omega⟩
theorem Env.drew {c:FC}{B F:Nat}{w:World}(h:Env c B F w):Env c B F w.drew:=h.grown (wJ (ui w F))
theorem aB.alloc {c:FC}{w:World}{F:Nat}{top:Option Addr}{st:List Int}{f:Vf.Fl}{n:Int}{row:Value}(h:aB c w F top st f n row)(o:Obj):aB c (w.alloc o) F top st f n row :=
 ⟨(Below.heap_alloc _ _ _ (lt_of_block h.blk)).trans h.blk,h.sk.keep fun _ _ hb=>(Below.heap_alloc _ _ _ (lt_of_block hb)).trans hb⟩
theorem iy {w:World}{F:Nat}(o:Obj):w.grownBy (w.alloc o) (some F):=tJ (ui w F) o
theorem kept {w w':World}{F b:Nat}(hg:w.grownBy w' (some F))(hb:b<w.heap.size)(hne:b≠F):w'.heap[b]?=w.heap[b]?:=hg.block b hb (by simp;omega)
def FN (w:World)(N F:Nat):Prop:=N≠F∧∃ cs t fr,w.heap[N]?=some (Obj.cells cs t fr)∧t≠148
theorem FN.set {w:World}{N F:Nat}(h:FN w N F)(o:Nat)(v:Value):FN (w.setCell ⟨N,o,none⟩ v) N F:=by
 obtain⟨h1,cs,t,fr,h2,h3⟩:=h;refine⟨h1,cs.setIfInBounds o v,t,fr,?_,h3⟩;simp only[World.setCell,Array.getElem?_modify,if_true,h2,Option.map_some];rfl
theorem aB.set {c:FC}{w:World}{F N:Nat}{top:Option Addr}{st:List Int}{f:Vf.Fl}{n:Int}{row:Value}(h:aB c w F top st f n row)(ho:FN w N F)(o:Nat)(v:Value):aB c (w.setCell ⟨N,o,none⟩ v) F top st f n row:=by
 obtain⟨h1,cs,t,fr,h2,h3⟩:=ho;refine⟨(Below.heap_setCell _ ⟨N,o,none⟩ _ _ (by show F≠N;omega)).trans h.blk,h.sk.keep fun b cs' hb=>(Below.heap_setCell _ ⟨N,o,none⟩ _ _ (fun e=>?_)).trans hb⟩;have e1:b=N:=e;subst e1;rw[h2] at hb;simp at hb;exact h3 hb.2.1
theorem FO {w w':World}{F N:Nat}(h:w.grownBy w' (some F))(hN:w.heap.size≤N)(o:Nat)(v:Value):w.grownBy (w'.setCell ⟨N,o,none⟩ v) (some F) :=
 ⟨h.os,h.tape,h.output,by have:=h.size;simp[World.setCell];omega,fun k hk hne=>by
  rw[Below.heap_setCell _ ⟨N,o,none⟩ _ _ (by show k≠N;omega)];exact h.block k hk hne⟩
theorem Vu {c:FC}{w w':World}{F N:Nat}{top:Option Addr}{st:List Int}{f:Vf.Fl}{n:Int}{row:Value}(hg:w.grownBy w' (some F))(hN:w.heap.size≤N)(h:aB c w' F top st f n row)(ho:FN w' N F)(v0 v1 v2 v3 v4 v5:Value) :
  w.grownBy ((((((w'.setCell ⟨N,0,none⟩ v0).setCell ⟨N,1,none⟩ v1).setCell ⟨N,2,none⟩ v2).setCell ⟨N,3,none⟩ v3).setCell ⟨N,4,none⟩ v4).setCell ⟨N,5,none⟩ v5) (some F)∧aB c ((((((w'.setCell ⟨N,0,none⟩ v0).setCell ⟨N,1,none⟩ v1).setCell ⟨N,2,none⟩ v2).setCell ⟨N,3,none⟩ v3).setCell ⟨N,4,none⟩ v4).setCell ⟨N,5,none⟩ v5) F top st f n row :=
 ⟨FO (FO (FO (FO (FO (FO hg hN _ _) hN _ _) hN _ _) hN _ _) hN _ _) hN _ _,(((((h.set ho _ _).set (ho.set _ _) _ _).set ((ho.set _ _).set _ _) _ _).set (((ho.set _ _).set _ _).set _ _) _ _).set ((((ho.set _ _).set _ _).set _ _).set _ _) _ _).set (((((ho.set _ _).set _ _).set _ _).set _ _).set _ _) _ _⟩
def xN (m:Vf.Md)(st:List Int):Prop:=∀ t ∈ st,Vf.plain t=true∨(10≤t∧Vf.is m 3 (t - 10)=true)
theorem yh {m:Vf.Md}{k n:Int}(h:Vf.is m k n=true):∃ u,m.units[n.toNat]?=some u∧u.kind=k∧0≤n:=by
 unfold Vf.is at h;simp only[Bool.and_eq_true,decide_eq_true_eq] at h;obtain⟨h1,h2⟩:=h;cases hu:m.units[n.toNat]? with
 | none=>rw[hu] at h2;simp at h2
 | some u=>rw[hu] at h2;exact⟨u,rfl,by simpa using h2,h1⟩
theorem xN.get {m:Vf.Md}{st:List Int}(h:xN m st){t:Int}(ht:t ∈ st)(h10:10≤t):∃ u,m.units[(t - 10).toNat]?=some u∧u.kind=3:=by
 rcases h t ht with h1 | ⟨_,h1⟩
 ·unfold Vf.plain at h1;simp at h1;omega
 ·obtain⟨u,h2,h3,_⟩:=yh h1;exact⟨u,h2,h3⟩
structure Vv (c:FC) (F:Nat) (f:Vf.Fl) (n:Int) (row:Value) (r:Except Int (Int × List Int)) (w:World) (e:Ending) (w':World):Prop where
 grown:w.grownBy w' (some F)
 no:∀ er,r=.error er→e=.panicked [lT er n]
 yes:∀ t st,r=.ok (t,st)→(∃ u al ac cl cc,c.m.units[(t - 10).toNat]?=some u∧e=.returned (O6 u al ac cl cc))∧∃ top,aB c w' F top st f n row
theorem O7 (c:FC)(F B:Nat)(top:Option Addr)(st:List Int)(f:Vf.Fl)(n:Int)(row:Value)(w:World)(h:Hid (aB c w F top st f n row))(hE:Hid (Env c B F w))(hl:st.length<1000)(hgn:Hid (xN c.m st))(hun:c.m.units.length≤30)(r:Except Int (Int × List Int))(hr:Hid (r=Vf.vW st)) :
  Calls Tryz.prog 99 #[.pointer (some ⟨F,0,none⟩)] w fun e w'=>Vv c F f n row r w e w':=by
 have hlt:=hE.out.lt;go_enter Tryz.func99,Tryz.ntmps99
 go_wp2_with fail
 refine (GL c F top st f n row _ (hide (h.out.alloc _)) hl (Vf.pop st) (hide rfl)).mono ?_;rintro e w1 hV;have HG:Hid (w.grownBy w1 (some F)):=iC (iy _) hV.grown;have HZ:Hid (w1.heap[w.heap.size]?=some Z6):=(kept hV.grown (by simp) (by omega)).trans (heap_alloc_new w Z6);cases st with
 | nil =>
  obtain rfl:=hV.no 12 rfl;have HE:Hid (r=.error 12):=hr.out;clear hV;go_wp2
  exact⟨rfl,HG.out,fun er e=>(by rw[HE.out] at e;cases e;rfl),fun _ _ e=>(by rw[HE.out] at e;cases e)⟩
 | cons t st1 =>
  obtain⟨rfl,lv,hF1⟩:=hV.yes t st1 rfl;have fE:=hide hF1;have c14:=(uD hF1.blk).1;have c1:=(sV hF1.blk).2.1;have HR:Hid (r=if 10≤t then .ok (t,st1) else .error 9):=hr.out;clear hV hF1 hr;by_cases h10:10≤t
  ·have hd:decide (10≤t)=true:=by simpa using h10
   obtain⟨u,hu,hk⟩:=hgn.out.get (List.mem_cons_self) h10;obtain⟨k,hk0⟩:∃ k:Nat,t=10+(k:Int):=⟨(t - 10).toNat,by omega⟩;have hkk:(t - 10).toNat=k:=by omega
   rw[hkk] at hu;obtain⟨b,off,al,cl,ac,cc,ha,hb,jB,u0,u1,u2,u3,u4,u5⟩:=(hE.out.grown HG.out).md.units k u hu;have HU:=hide hu;have Am:k<c.m.units.length:=(List.getElem?_eq_some_iff.1 hu).1;have wW:=hE.out.base;have HE:Hid (r=.ok (t,st1)):=by rw[HR.out,if_pos h10];rfl
   have HKK:=hide hkk;have e10:IntKind.i64.wrap (t - 10)=(k:Int):=by rw[show t - 10=(k:Int) by omega];simp[IntKind.wrap,IntKind.bits,IntKind.signed];omega
   have hk1:(k:Int)<(c.m.units.length:Int):=by omega
   obtain⟨z0,z1,z2,z3,z4,z5⟩:=Vt HZ.out;obtain⟨y0,y1,y2,y3,y4,y5⟩:=zO HZ.out;have hne:b≠w.heap.size:=by omega
   clear hkk hu hk jB h10 HR hk0;go_wp2_with fail
   refine (uj F true 9 n _ c14).mono ?_;rintro e w2 ⟨he,rfl⟩;obtain rfl:e=.returned (.tuple #[]):=he;rw[ha] at c1;go_wp2
   have ho:FN w2 w.heap.size F:=⟨by omega,_,_,_,HZ.out,by decide⟩;obtain⟨Vx,Jl⟩:=Vu HG.out (Nat.le_refl _) fE.out ho (.int .i64 u.kind) (.int .i64 u.params) (.slice al u.locals.length cl) (.int .i64 u.result) (.int .i64 u.takes) (.slice ac u.code.length cc);refine bodyPost_ret (v:=O6 u al ac cl cc) (by simp[results,Tryz.results99,go_sem,y0,y1,y2,y3,y4,y5]) rfl ?_;refine⟨Vx,fun er e=>(by rw[HE.out] at e;cases e),fun t' st' e=>?_⟩;rw[HE.out] at e;cases e;exact⟨⟨u,al,ac,cl,cc,by rw[HKK.out];exact HU.out,rfl⟩,lv,Jl⟩
  ·have hd:decide (10≤t)=false:=by simpa using h10
   have HE:Hid (r=.error 9):=by rw[HR.out,if_neg h10];rfl
   go_wp2_with fail
   refine (uj F false 9 n _ c14).mono ?_;rintro e w2 ⟨he,rfl⟩;obtain rfl:e=.panicked [lT 9 n]:=he;clear c14 c1;go_wp2
   exact⟨rfl,HG.out,fun er e=>(by rw[HE.out] at e;cases e;rfl),fun _ _ e=>(by rw[HE.out] at e;cases e)⟩
theorem O8 (c:FC)(F B:Nat)(top:Option Addr)(st:List Int)(f:Vf.Fl)(n:Int)(row:Value)(k:Nat)(u:Vf.Un)(w:World)(h:Hid (aB c w F top st f n row))(hE:Hid (Env c B F w))(hu:Hid (c.m.units[k]?=some u))(hp:Hid (0≤u.params∧u.params≤u.locals.length∧u.locals.length≤200))(pl:List Int)(hpl:Hid (pl=u.locals.take u.params.toNat)) :
  Calls Tryz.prog 97 #[.pointer (some ⟨F,0,none⟩),.int .i64 (k:Int)] w fun e w'=>(∃ a cp,e=.returned (.slice a pl.length cp)∧IntsIn B w' pl a)∧w.grownBy w' (some F)∧aB c w' F top st f n row:=by
 have hlt:=hE.out.lt;have wW:=hE.out.base;have c1:=(sV h.out.blk).2.1;obtain⟨b,off,al,cl,ac,cc,ha,hb,jB,u0,u1,u2,u3,u4,u5⟩:=hE.out.md.units k u hu.out;have Am:k<c.m.units.length:=(List.getElem?_eq_some_iff.1 hu.out).1;have hk1:(k:Int)<(c.m.units.length:Int):=by omega
 obtain⟨p,O9⟩:∃ p:Nat,u.params=p:=⟨u.params.toNat,by have:=hp.out;omega⟩;have hp1:p≤u.locals.length:=by have:=hp.out;omega
 have hcap:=jB.uh.1;have hp2:p≤cl:=by omega
 have hp3:(p:Int)≤(cl:Int):=by omega
 have adC:u.locals.length≤200:=hp.out.2.2;have HI:=hide jB.locals;rw[O9] at u1;have HP:Hid (u.params.toNat=p):=by unfold Hid;omega
 rw[ha] at c1;clear jB O9 hcap;go_enter Tryz.func97,Tryz.ntmps97
 go_wp2
 go_ret
 rw[hpl.out,HP.out];refine⟨⟨al,cl,?_,fun i x hx=>?_⟩,iy _,h.out.alloc _⟩
 ·rw[List.length_take,Nat.min_eq_left hp1]
  rfl
 ·rw[List.getElem?_take] at hx
  split at hx
  ·exact HI.out.low (K9 (iy _) wW hlt) i x hx
  ·cases hx
theorem Vy {m:Vf.Md}{t:Int}{st:List Int}(h:xN m (t :: st)):xN m st:=fun x hx=>h x (List.mem_cons_of_mem _ hx)
theorem Vz (c:FC)(F B:Nat)(top:Option Addr)(st:List Int)(f:Vf.Fl)(n:Int)(row:Value)(w:World)(h:Hid (aB c w F top st f n row))(hE:Hid (Env c B F w))(hl:st.length<900)(hgn:Hid (xN c.m st))(hun:c.m.units.length≤30)(r:Except Int (List Int))(hr:Hid (r=Vf.resume c.m st)) :
  Calls Tryz.prog 98 #[.pointer (some ⟨F,0,none⟩)] w fun e w'=>ay c F f n row r w e w':=by
 have hlt:=hE.out.lt;go_enter Tryz.func98,Tryz.ntmps98
 go_wp2_with fail
 refine (GL c F top st f n row _ h (by omega) (Vf.pop st) (hide rfl)).mono ?_;rintro e w1 hV;have HG:=hide hV.grown;cases st with
 | nil =>
  obtain rfl:=hV.no 12 rfl;have HE:Hid (r=.error 12):=hr.out;clear hV;go_wp2
  exact⟨rfl,ay.bad HG.out HE.out⟩
 | cons t st1 =>
  obtain⟨rfl,lv,hF1⟩:=hV.yes t st1 rfl;have fE:=hide hF1;obtain⟨r1,hr1⟩:∃ r1,r1=Vf.vW st1:=⟨_,rfl⟩;have HR1:=hide hr1;have HR:Hid (r=Vf.andThen r1 fun g=>Vf.andThen (Vf.must (t==(Vf.unit c.m (g.1 - 10)).takes) 9 g.2) (Vf.put (Vf.unit c.m (g.1 - 10)).result)):=by unfold Hid;rw[hr.out,hr1];rfl
  have hl1:st1.length<900:=by simp at hl;omega
  have BG:Hid (∀ g st',r1=.ok (g,st')→st'.length<1000):=fun g st' e=>by
   rw[hr1] at e;cases st1 with
   | nil=>cases e
   | cons y st2 =>
    unfold Vf.vW Vf.pop Vf.andThen at e;simp only at e;split at e
    ·cases e;simp at hl1;omega
    ·cases e
  clear hV hF1 hr hr1;go_wp2_with fail
  refine (O7 c F B lv st1 f n row _ fE (hide (hE.out.grown HG.out)) (by omega) (hide (Vy hgn.out)) hun r1 HR1).mono ?_;rintro e w2 hV;have HG2:Hid (w.grownBy w2 (some F)):=iC HG.out hV.grown;cases r1 with
  | error er =>
   obtain rfl:=hV.no er rfl;have HE:Hid (r=.error er):=HR.out;clear hV;go_wp2
   exact⟨rfl,ay.bad HG2.out HE.out⟩
  | ok gs =>
   obtain⟨g,st2⟩:=gs;obtain⟨⟨u,al,ac,cl,cc,hu,rfl⟩,ED,hF2⟩:=hV.yes g st2 rfl;have hl2:=BG.out g st2 rfl;have sj:Hid (aB c (w2.alloc (gP u al ac cl cc)) F ED st2 f n row):=hF2.alloc _;have sH:Hid (w.grownBy (w2.alloc (gP u al ac cl cc)) (some F)):=tJ HG2.out _;have c14:=(uD sj.out.blk).1;have Pb:Vf.unit c.m (g - 10)=u:=by unfold Vf.unit;rw[hu];rfl
   have HR2:Hid (r=Vf.andThen (Vf.must (t==u.takes) 9 st2) (Vf.put u.result)):=by rw[← Pb];exact HR.out
   clear hV hF2 Pb hu HR BG;obtain⟨W,hW⟩:∃ W,W=w2.alloc (gP u al ac cl cc):=⟨_,rfl⟩;by_cases ht:t=u.takes
   ·have e1:(t==u.takes)=true:=by simpa using ht
    have HR3:Hid (r=Vf.put u.result st2):=by unfold Hid;rw[HR2.out,e1];rfl
    go_wp2_with fail
    refine (uj F true 9 n _ c14).mono ?_;rintro e w3 ⟨he,rfl⟩;obtain rfl:e=.returned (.tuple #[]):=he;clear c14 HR2;go_wp2_with fail
    refine (EC c F ED st2 f n row u.result _ sj hl2 r HR3).mono ?_;rintro e w4 hS;have sI:Hid (w.grownBy w4 (some F)):=iC sH.out hS.grown;cases r with
    | error er =>
     obtain rfl:=hS.no er rfl;clear hS;go_wp2
     exact⟨rfl,ay.bad sI.out rfl⟩
    | ok VA =>
     obtain⟨rfl,Pd,zP⟩:=hS.yes VA rfl;have Jm:=hide zP;clear hS zP;go_wp2
     go_end0
     exact ay.good sI.out rfl Jm.out
   ·have e1:(t==u.takes)=false:=by simpa using ht
    have HE:Hid (r=.error 9):=by unfold Hid;rw[HR2.out,e1];rfl
    go_wp2_with fail
    refine (uj F false 9 n _ c14).mono ?_;rintro e w3 ⟨he,rfl⟩;obtain rfl:e=.panicked [lT 9 n]:=he;clear c14 HR2;go_wp2
    exact⟨rfl,ay.bad sH.out HE.out⟩
theorem VB (x:BitVec 64)(k:Nat):(bits .and .u64 ((x.toNat:Int) / 2 ^ k) 1==1)=x.getLsbD k:=by
 have h1:=x.isLt;have e0:(x.toNat:Int) / 2 ^ k=((x.toNat / 2 ^ k:Nat):Int):=by simp
 have h2:x.toNat / 2 ^ k≤x.toNat:=Nat.div_le_self _ _;have e:=u64_and_nat (x.toNat / 2 ^ k) 1 (by omega) (by decide);rw[Nat.and_one_is_mod] at e;have e':bits .and .u64 ((x.toNat / 2 ^ k:Nat):Int) 1=((x.toNat / 2 ^ k % 2:Nat):Int):=e;rw[e0,e',BitVec.getLsbD,Nat.testBit_eq_decide_div_mod_eq];rcases Nat.mod_two_eq_zero_or_one (x.toNat / 2 ^ k) with h | h<;>rw[h]<;>rfl
theorem wrap_u64 (n:Int):IntKind.u64.wrap n=n % 18446744073709551616:=by simp[IntKind.wrap,IntKind.bits,IntKind.signed]
theorem Jn (x:BitVec 64){k:Nat}(hk:k<64):bits .or .u64 (x.toNat:Int) (IntKind.u64.wrap (2 ^ k))=(((x ||| BitVec.twoPow 64 k).toNat:Nat):Int):=by
 have h1:=x.isLt;have h2:2 ^ k<2 ^ 64:=Nat.pow_lt_pow_right (by decide) hk;have e0:IntKind.u64.wrap (2 ^ k)=((2 ^ k:Nat):Int):=by
  have:(2:Int) ^ k=((2 ^ k:Nat):Int):=by simp
  rw[this,wrap_u64];generalize 2 ^ k=y at h2;omega
 have e:=u64_or_nat x.toNat (2 ^ k) (by omega) (by omega);rw[e0,e,BitVec.toNat_or,BitVec.toNat_twoPow,Nat.mod_eq_of_lt h2]
theorem VC (f:Vf.Fl){q:Nat}(hq:q<4):[ah f.a,ah f.b,ah f.c,ah f.d][q]?=some (ah (f.word q)):=by
 unfold Vf.Fl.word;rcases (by omega:q=0∨q=1∨q=2∨q=3) with rfl | rfl | rfl | rfl<;>rfl
theorem VD (f:Vf.Fl)(n:Nat)(hn:n<256)(w:World)(b:Bool)(hb:Hid (b=f.has n)) :
  Calls Tryz.prog 83 #[.agg #[ah f.a,ah f.b,ah f.c,ah f.d],.int .i64 (n:Int)] w fun e w'=>e=.returned (.bool b)∧w'=w.alloc (.cells #[ah f.a,ah f.b,ah f.c,ah f.d] 75 (0,0)):=by
 have hc:=VC f (q:=n / 64) (by omega);obtain⟨x,hx⟩:∃ x,x=f.word (n / 64):=⟨_,rfl⟩;rw[← hx] at hc;have HX:=hide hx;clear hx;go_enter Tryz.func83,Tryz.ntmps83
 go_wp2
 go_ret
 refine⟨?_,rfl⟩;show Ending.returned (Value.bool (bits .and .u64 ((x.toNat:Int) / 2 ^ (n % 64)) 1==1))=_
 rw[hb.out,Vf.Fl.has,← HX.out,VB]
theorem Pe (c:FC)(F:Nat)(top:Option Addr)(st:List Int)(f:Vf.Fl)(n:Int)(row:Value)(x:Nat)(hx:x<256)(w:World)(h:Hid (aB c w F top st f n row)) :
  Calls Tryz.prog 62 #[.pointer (some ⟨F,10,none⟩),.int .i64 (x:Int)] w fun e w'=>e=.returned (.tuple #[])∧w.grownBy w' (some F)∧aB c w' F top st (f.fill x) n row:=by
 obtain⟨c10,c11,c12,c13,f10,f11,f12,f13⟩:=DN h.out.blk;rcases (by omega:x / 64=0∨x / 64=1∨x / 64=2∨x / 64=3) with hq | hq | hq | hq
 ·skip
  have hq2:(x:Int) / 64=0:=by omega
  have HQ:=hide hq;clear hq;go_enter Tryz.func62,Tryz.ntmps62
  go_wp2
  go_region
  all_goals
   go_wp2
   go_end0
   have hg:=wI (ui w F) 10 (.int .u64 (bits .or .u64 (f.a.toNat:Int) (IntKind.u64.wrap (2 ^ (x % 64)))));refine⟨rfl,wJ hg,aB.drew ⟨?_,h.out.sk.grown hg h.out.blk⟩⟩;rw[Jn f.a (by omega)];simp only[World.setCell,Array.getElem?_modify,if_true,h.out.blk,Option.map_some,Vf.Fl.fill,HQ.out];rfl
 ·skip
  have hq2:(x:Int) / 64=1:=by omega
  have HQ:=hide hq;clear hq;go_enter Tryz.func62,Tryz.ntmps62
  go_wp2
  go_region
  all_goals
   go_wp2
   go_end0
   have hg:=wI (ui w F) 11 (.int .u64 (bits .or .u64 (f.b.toNat:Int) (IntKind.u64.wrap (2 ^ (x % 64)))));refine⟨rfl,wJ hg,aB.drew ⟨?_,h.out.sk.grown hg h.out.blk⟩⟩;rw[Jn f.b (by omega)];simp only[World.setCell,Array.getElem?_modify,if_true,h.out.blk,Option.map_some,Vf.Fl.fill,HQ.out];rfl
 ·skip
  have hq2:(x:Int) / 64=2:=by omega
  have HQ:=hide hq;clear hq;go_enter Tryz.func62,Tryz.ntmps62
  go_wp2
  go_region
  all_goals
   go_wp2
   go_end0
   have hg:=wI (ui w F) 12 (.int .u64 (bits .or .u64 (f.c.toNat:Int) (IntKind.u64.wrap (2 ^ (x % 64)))));refine⟨rfl,wJ hg,aB.drew ⟨?_,h.out.sk.grown hg h.out.blk⟩⟩;rw[Jn f.c (by omega)];simp only[World.setCell,Array.getElem?_modify,if_true,h.out.blk,Option.map_some,Vf.Fl.fill,HQ.out];rfl
 ·skip
  have hq2:(x:Int) / 64=3:=by omega
  have HQ:=hide hq;clear hq;go_enter Tryz.func62,Tryz.ntmps62
  go_wp2
  go_region
  all_goals
   go_wp2
   go_end0
   have hg:=wI (ui w F) 13 (.int .u64 (bits .or .u64 (f.d.toNat:Int) (IntKind.u64.wrap (2 ^ (x % 64)))));refine⟨rfl,wJ hg,aB.drew ⟨?_,h.out.sk.grown hg h.out.blk⟩⟩;rw[Jn f.d (by omega)];simp only[World.setCell,Array.getElem?_modify,if_true,h.out.blk,Option.map_some,Vf.Fl.fill,HQ.out];rfl
end Go.Proofs.YtbdpdjcdhclbfaaGreat
