/- Appends: what is appended to lies there,or anew. -/
import Derived.Test.YtbioaoangfiijaaGreatDoorM40
namespace Go.Proofs.YtbioaoangfiijaaGreatDoor
namespace Xe
variable {P:Program}
theorem Post.anew {φ:Ph} {s:S} {w w':World} {h':Hp} {o2:Obj} {g:Gh} (h:Stt φ s w) (hh:∀ y o,h' y = some o → isO o → s.h y = some o)
  (hsz:w.heap.size ≤ w'.heap.size) (hout:Oe w w') (hg:g.b < w'.heap.size)
  (hnew:w.heap.size ≤ g.b ∨ ∃ y gy,3 ≤ y ∧ live s.h y ∧ φ y = some gy ∧ gy.b = g.b ∧ ¬ live h' y)
  (hkeep:∀ b,b < w.heap.size → b ≠ g.b → w'.heap[b]? = w.heap[b]?) (hor:OR (upd φ s.c g) w' s.c o2) :
  Post φ s w (upd φ s.c g) ⟨s.c + 1,setH h' s.c o2,s.ds⟩ w':=by
 have h0:φ s.c = none:=h.fr s.c (Nat.le_refl _)
 have hsub:=upd_sub h0 g
 have hl:∀ y,live (setH h' s.c o2) y → y = s.c ∨ live h' y:=by
  rintro y ⟨o,hy,hi⟩
  rw [setH_get] at hy
  split at hy
  ·rename_i e; exact .inl e
  ·exact .inr ⟨o,hy,hi⟩
 have hl':∀ y,live h' y → live s.h y:=fun y ⟨o,hy,hi⟩ => ⟨o,hh y o hy hi,hi⟩
 have hne:∀ y gy,live h' y → φ y = some gy → gy.b ≠ g.b:=by
  intro y gy hy hgy e
  rcases hnew with h1 | ⟨z,gz,_,hz,hgz,he,hd⟩
  ·have:=h.rel.bnd y gy hgy; omega
  ·exact hd (h.rel.inj y z gy gz (hl' y hy) hz hgy hgz (e.trans he.symm) ▸ hy)
 have hphi:∀ y gy,live h' y → upd φ s.c g y = some gy → φ y = some gy:=by
  intro y gy hy hgy
  unfold upd at hgy
  split at hgy
  ·rename_i e
   subst e
   obtain ⟨g',hg'⟩:=h.rel.has (hl' _ hy)
   rw [h0] at hg'; cases hg'
  ·exact hgy
 refine ⟨⟨⟨?_,?_,?_,?_⟩,?_⟩,⟨hsub,hsz,?_,?_,hout⟩,Nat.le_succ _,?_,?_⟩
 ·intro y o hy0
  have hy:setH h' s.c o2 y = some o:=hy0
  rw [setH_get] at hy
  split at hy
  ·rename_i e
   subst e
   cases hy
   exact hor
  ·by_cases hi:isO o
   ·have hs:=hh y o hy hi
    refine (h.rel.obj y o hs).mono hsub fun gy hgy => hkeep gy.b (h.rel.bnd y gy hgy) (hne y gy ⟨o,hy,hi⟩ hgy)
   ·cases o <;> simp only [isO,not_true_eq_false] at hi <;> exact trivial
 ·intro y z g1 g2 hy hz h1 h2 e
  rcases hl y hy with rfl | hy' <;> rcases hl z hz with rfl | hz'
  ·rfl
  ·rw [upd_self] at h1; cases h1
   exact absurd e.symm (hne z g2 hz' (hphi z g2 hz' h2))
  ·rw [upd_self] at h2; cases h2
   exact absurd e (hne y g1 hy' (hphi y g1 hy' h1))
  ·exact h.rel.inj y z g1 g2 (hl' y hy') (hl' z hz') (hphi y g1 hy' h1) (hphi z g2 hz' h2) e
 ·intro y gy hy
  show gy.b < w'.heap.size
  unfold upd at hy
  split at hy
  ·cases hy; exact hg
  ·exact Nat.lt_of_lt_of_le (h.rel.bnd y gy hy) hsz
 ·intro y hy
  obtain ⟨n,hn⟩:=h.rel.glo y hy
  exact ⟨n,hsub _ _ hn⟩
 ·intro y hy
  show upd φ s.c g y = none
  have hy':s.c + 1 ≤ y:=hy
  unfold upd
  rw [if_neg (by omega)]
  exact h.fr y (by omega)
 ·intro y gy h1 h2
  unfold upd at h2
  split at h2
  ·cases h2
   rcases hnew with h3 | ⟨z,gz,hz3,hz,hgz,he,_⟩
   ·exact .inl h3
   ·exact .inr ⟨z,gz,hz3,hz,hgz,he⟩
  ·rw [h1] at h2; cases h2
 ·intro b hb hn
  refine hkeep b hb fun e => ?_
  rcases hnew with h3 | ⟨z,gz,hz3,hz,hgz,he,_⟩
  ·omega
  ·exact hn z gz hz3 hz hgz (he.trans e.symm)
 ·intro y h1 h2
  unfold upd at h2
  split at h2
  ·rename_i e; subst e; exact Nat.le_refl _
  ·exact absurd h1 h2
 ·intro y hy
  rcases hl y hy with rfl | hy'
  ·exact .inr h0
  ·exact .inl (hl' y hy')
theorem OR_own {φ:Ph} {w':World} {nm g cap n z N:Nat} {cur:Array Value} {e el:TypeId} {l xs:List Value} {fr:Nat × Nat} (h0:φ nm = none) (hw:w'.heap[g]? = some (.cells cur e (0,0))) (hc:cur.size = N) (hN:cap * z ≤ N) (hnc:n ≤ cap)
  (hx:cur.toList.take (n * z) = xs) (hL:L (V1 φ) l xs) (hl:l.length = n * z) :
  OR (upd φ nm ⟨g,N⟩) w' nm (.cells l.toArray el fr) ∧ V (upd φ nm ⟨g,N⟩) (.slice (some ⟨nm,0,none⟩) n z) (.slice (some ⟨g,0,none⟩) n cap):=by
 refine ⟨⟨_,cur,e,(0,0),upd_self φ nm _,hw,hc,fun _ => rfl,?_,?_⟩,.of0 ⟨_,cap,rfl,.inr ⟨rfl,hnc,_,upd_self φ nm _,rfl,by show 0 + cap * z ≤ N; omega⟩⟩⟩
 ·have:n * z ≤ cap * z:=Nat.mul_le_mul_right z hnc
  simp; omega
 ·have e1:l.toArray.size = n * z:=by simpa using hl
  rw [e1,hx]
  exact hL.mono fun _ _ => V1.mono (upd_sub h0 _)
theorem run_room {t ty e e2:TypeId} {i:TypeInfo} (ht:P.underlying t = some (.slice e)) (hi:P.info? e = some i) (w:World)
  (g sLen sCap:Nat) (cur:Array Value) (hg:w.heap[g]? = some (.cells cur e2 (0,0)))
  (a:Addr) (m c:Nat) (news:List Value) (hl:news.length = m * i.size) (hnews:∀ j u,news[j]? = some u → w.cell? (a.add j) = some u) (h1:∀ u ∈ news,u.oneCell' = true)
  (hroom:sLen + m ≤ sCap) (hfit:sLen * i.size + news.length ≤ cur.size) :
  (Builtin.append_ #[t,t] ty #[.slice (some ⟨g,0,none⟩) sLen sCap,.slice (some a) m c]).run P w =
   .ok (.slice (some ⟨g,0,none⟩) (sLen + m) sCap) (w.setRow g (cur.toList.take (sLen * i.size) ++ news ++ cur.toList.drop (sLen * i.size + news.length)).toArray):=by
 have hf:=run_firstCells_some (P:=P) w i.size m a m c news hl hnews
 have hst:=run_storeCells_at P g (sLen * i.size) e2 news 0 cur w hg (by simpa using hfit) h1
 simp only [Nat.add_zero] at hst
 simp [Builtin.append_,run_underlying ht,sizeOf,typeInfo,hi,Builtin.lenOf,hroom,hf,Addr.add_lit,hst]
theorem run_app0 {t ty e:TypeId} {i:TypeInfo} (ht:P.underlying t = some (.slice e)) (hi:P.info? e = some i) (w:World) (a b:Option Addr) (n k c:Nat) (hk:n ≤ k) :
  (Builtin.append_ #[t,t] ty #[.slice a n k,.slice b 0 c]).run P w = .ok (.slice a n k) w:=by
 cases a <;> cases b <;> simp [Builtin.append_,run_underlying ht,sizeOf,typeInfo,hi,Builtin.lenOf,hk,Builtin.firstCells,loadCells,loadCellsFrom,storeCells]
theorem sim_app {c:Call} {f:F} (hc:c.callee = .builtin .append) (h:compB P c .append = some f):ESim P (.call c) f:=by
 unfold compB at h
 simp only at h
 split at h
 case h_2 => cases h
 rename_i x y t t' hargs hats
 split at h
 case h_2 => cases h
 rename_i el hd
 obtain ⟨i,hi,h⟩:=oB_some.1 h
 obtain ⟨zs,hz,h⟩:=oB_some.1 h
 rw [guardB_some,guardB_some,guardB_some,guardB_some] at h
 obtain ⟨ht,hzs,hpos,hby,h⟩:=h
 cases h
 have ht':=Nat.eq_of_beq_eq_true ht
 subst ht'
 have hzs':zs.cells.size = i.size:=Nat.eq_of_beq_eq_true hzs
 have hpos':0 < i.size:=by rw [ble_dec] at hpos; simp at hpos; omega
 have hby':i.bytes ≤ 1000000:=by rw [ble_dec] at hby; simpa using hby
 have hargs':c.args = #[x,y]:=Array.toList_inj.1 (by simpa using hargs)
 have hats':c.argTypes = #[t,t]:=Array.toList_inj.1 (by simpa using hats)
 have hopx:x ∈ (Op.call c).operands:=by simp [Op.operands,Call.operands,hc,hargs']
 have hopy:y ∈ (Op.call c).operands:=by simp [Op.operands,Call.operands,hc,hargs']
 have hexec:∀ (a:Act) (w w':World) (o:Oper) (r:Value),o.op = .call c → (Builtin.append_ #[t,t] 0 #[a.eval x,a.eval y]).run P w = .ok r w' → (execOp a.eval o).run P w = .ok (.value r) w':=by
  intro a w w' o r ho hrun
  rw [exec_builtin hc ho,hargs',hats']
  have:((#[x,y]:Array Operand).map a.eval) = #[a.eval x,a.eval y]:=by simp
  rw [this]
  show (do pure (.value (← Builtin.append_ #[t,t] 0 #[a.eval x,a.eval y])):Sem Next).run P w = _
  simp [hrun]
 intro call e s nm v s' h
 have h1:appV el i.size s (ev e x) (ev e y) = some (v,s'):=h
 unfold appV at h1
 obtain ⟨xa,n,k,hx,h1⟩:=vSl_some.1 h1
 obtain ⟨yb,m,k2,hy,h1⟩:=vSl_some.1 h1
 cases m with
 | zero =>
  have h2:some (Value.slice xa n k,s) = some (v,s'):=h1
  cases h2
  refine ⟨rfl,fun φ a w hE hS => ?_⟩
  have hxe:=hE x hopx
  have hye:=hE y hopy
  rw [hx] at hxe; rw [hy] at hye
  have hye':∃ b c',a.eval y = .slice b 0 c':=by
   cases yb with
   | none => exact ⟨none,0,(V_nil hye).2⟩
   | some b => obtain ⟨b',c',h',_⟩:=V_sl hye; exact ⟨b',c',h'⟩
  obtain ⟨b,c',hye'⟩:=hye'
  refine ⟨φ,a.eval x,w,hxe,Post.refl hS,fun o ho => .inl (hexec a w w o _ ho ?_)⟩
  rw [hye']
  cases xa with
  | none =>
   rw [(V_nil hxe).2]
   exact run_app0 hd hi w none b 0 0 c' (Nat.le_refl _)
  | some xa =>
   obtain ⟨a',cc,h',hs⟩:=V_sl hxe
   rw [h']
   rcases hs with ⟨_,rfl⟩ | ⟨_,hle,g,hg,rfl,_⟩
   ·exact run_app0 hd hi w a' b 0 cc c' (Nat.zero_le _)
   ·exact run_app0 hd hi w _ b n cc c' hle
 | succ m =>
  rw [nB_succ,guardB_some] at h1
  obtain ⟨hbd,h2⟩:=h1
  obtain ⟨b,hyb,h3⟩:=oB_some.1 h2
  subst hyb
  obtain ⟨new,hnew,h1⟩:=oB_some.1 h3
  clear h2 h3
  have hbd':n + (m + 1) ≤ 1000000:=by rw [ble_dec] at hbd; simpa using hbd
  have hbytes:(n + (m + 1)) * i.bytes ≤ 140737488355328:=Nat.le_trans (Nat.mul_le_mul hbd' hby') (by omega)
  have h63:n + (m + 1) ≤ maxLen:=by simp [maxLen]; omega
  rw [show Nat.mul (Nat.succ m) i.size = (m + 1) * i.size from rfl] at hnew
  have hds:s'.ds = s.ds:=by
   unfold appN at h1
   cases xa with
   | none =>
    cases n with
    | zero => simp only [nB_zero,sB_eq,fN_eq] at h1; cases h1; rfl
    | succ n => cases h1
   | some xa =>
    simp only [aB_eq] at h1
    rw [noSp_some,guardB_some,guardB_some] at h1
    obtain ⟨_,_,_,h1⟩:=h1
    cases ho:xa.off with
    | succ q => rw [ho,nB_succ] at h1; cases h1
    | zero =>
     rw [ho,nB_zero,bB_ite] at h1
     split at h1
     ·cases h1
     ·obtain ⟨old,_,h1⟩:=oB_some.1 h1
      simp only [sB_eq,fN_eq] at h1
      cases h1; rfl
  refine ⟨hds,fun φ a w hE hS => ?_⟩
  have hxe:=hE x hopx
  have hye:=hE y hopy
  rw [hx] at hxe; rw [hy] at hye
  obtain ⟨b',cb,hye',hsb⟩:=V_sl hye
  rcases hsb with ⟨_,h0⟩ | ⟨hbsp,hcb,gb,hgb,rfl,_⟩
  ·cases h0
  have hARb:AR φ b ⟨gb.b,b.off,none⟩:=⟨hbsp,gb,hgb,rfl⟩
  obtain ⟨new',hLn,hlenn,hcell⟩:=read_row hnew hS.rel hARb
  have hnl:new.length = (m + 1) * i.size:=by rw [hLn.length]; exact hlenn
  have h0c:φ s.c = none:=hS.fr s.c (Nat.le_refl _)
  have hc3:3 ≤ s.c:=by
   rcases Nat.lt_or_ge s.c 3 with h | h
   ·obtain ⟨q,hq⟩:=hS.rel.glo s.c h; rw [h0c] at hq; cases hq
   ·exact h
  unfold appN at h1
  cases xa with
  | none =>
   obtain ⟨rfl,hxe'⟩:=V_nil hxe
   have h2:(sB s fun c h ds => fN c fun c => some (Value.slice (some ⟨c,0,none⟩) (Nat.succ m) i.size,(⟨Nat.succ c,setH h c (.cells new.toArray el),ds⟩:S))) = some (v,s'):=h1
   rw [sB_eq,fN_eq] at h2
   cases h2
   have hb0:(0 + (m + 1)) * i.bytes ≤ 140737488355328:=by simpa using hbytes
   obtain ⟨v',w',hrun,hown,hgr,_⟩:=run_append_own (P:=P) w w.heap.size t 0 el i zs i.size i.bytes hd hi hz rfl rfl hzs' hpos' (.slice none 0 0) 0 [] (World.ownsRow_nil w w.heap.size el i.size) ⟨gb.b,b.off,none⟩ (m + 1) cb new' hlenn hcell (L_one hLn) (by omega) hb0 (Nat.le_refl _)
   obtain ⟨_,⟨_,hz0⟩ | ⟨g,cap,cur,rfl,hgb',hgw,hnc,_,hcur,htake⟩⟩:=hown
   ·omega
   rw [Nat.zero_add] at hnc htake hrun
   obtain ⟨o1,o2⟩:=OR_own (nm:=s.c) (el:=el) (fr:=(0,0)) (w':=w') h0c hgw hcur (Nat.le_refl _) hnc htake (by simpa using hLn) hnl
   refine ⟨_,_,w',o2,Post.anew hS (fun _ _ h _ => h) hgr.size ⟨hgr.os,hgr.tape,hgr.output⟩ (Array.getElem?_eq_some_iff.1 hgw).1 (.inl hgb') (fun k hk _ => hgr.block k hk (by simp [Value.ownBlock])) o1,fun o ho => .inl (hexec a w w' o _ ho ?_)⟩
   rw [hxe',hye']
   exact hrun
  | some xa =>
   simp only [aB_eq] at h1
   rw [noSp_some,guardB_some,guardB_some] at h1
   obtain ⟨hsp,hk,h3,h9⟩:=h1
   clear h1
   have hk':=Nat.eq_of_beq_eq_true hk
   subst hk'
   have h3':3 ≤ xa.block:=by rw [ble_dec] at h3; simpa using h3
   cases hoff:xa.off with
   | succ q => rw [hoff,nB_succ] at h9; cases h9
   | zero =>
    rw [hoff,nB_zero,bB_ite] at h9
    split at h9
    ·cases h9
    obtain ⟨old,hold,h8⟩:=oB_some.1 h9
    clear h9
    simp only [sB_eq,fN_eq] at h8
    cases h8
    rw [show Nat.mul n i.size = n * i.size from rfl] at hold
    obtain ⟨xa',cx,hxe',hsx⟩:=V_sl hxe
    rcases hsx with ⟨hq,_⟩ | ⟨_,hncx,gx,hgx,rfl,hroomx⟩
    ·exact absurd hsp hq
    rw [hoff] at hxe' hroomx
    obtain ⟨_,cc,ec,fc,hcc,hcl,hold'⟩:=readN_some.1 hold
    rw [hoff] at hcl hold'
    simp only [List.drop_zero] at hcl hold'
    obtain ⟨gx',cur,e2,fr,hgx',hwx,hnx,hfrx,hlex,hLx⟩:=hS.rel.obj _ _ hcc
    rw [hgx] at hgx'; cases hgx'
    have hfr':=hfrx h3'
    subst hfr'
    have hclen:n * i.size ≤ cc.size:=by simpa using hcl
    have hLo:L (V1 φ) old (cur.toList.take (n * i.size)):=by
     rw [hold']
     have:=hLx.take (n * i.size)
     rw [List.take_take,Nat.min_eq_left hclen] at this
     exact this
    have holdl:old.length = n * i.size:=by rw [hold']; simp; omega
    have hLL:L (V1 φ) (old ++ new) (cur.toList.take (n * i.size) ++ new'):=hLo.app hLn
    have hlen2:(old ++ new).length = (n + (m + 1)) * i.size:=by simp only [List.length_append,holdl,hnl]; rw [← Nat.add_mul]
    have hlivex:live s.h xa.block:=⟨_,hcc,trivial⟩
    have hh:∀ y o,setH s.h xa.block dead y = some o → isO o → s.h y = some o:=by
     intro y o hy hi'
     rw [setH_get] at hy
     split at hy
     ·cases hy; exact hi'.elim
     ·exact hy
    have hdead:¬ live (setH s.h xa.block dead) xa.block:=by
     rintro ⟨o,hy,hi'⟩
     rw [setH_get,if_pos rfl] at hy
     cases hy; exact hi'
    have hxl:xa.block < s.c:=by
     rcases Nat.lt_or_ge xa.block s.c with h | h
     ·exact h
     ·have:=hS.fr _ h; rw [hgx] at this; cases this
    have holdc:∀ j u,(cur.toList.take (n * i.size))[j]? = some u → w.cell? ((⟨gx.b,0,none⟩:Addr).add j) = some u:=by
     intro j u hj
     have hadd:(⟨gx.b,0,none⟩:Addr).add j = ⟨gx.b,j,none⟩:=by unfold Addr.add; split <;> simp_all
     rw [hadd]
     rw [List.getElem?_take] at hj
     split at hj
     ·simp [World.cell?,hwx]; simpa using hj
     ·cases hj
    by_cases hroom:n + (m + 1) ≤ cx
    ·have hfit:n * i.size + new'.length ≤ cur.size:=by
      rw [hlenn,← Nat.add_mul,hnx]
      exact Nat.le_trans (Nat.mul_le_mul_right _ hroom) (by omega)
     have hrun:=run_room (P:=P) (ty:=0) hd hi w gx.b n cx cur hwx ⟨gb.b,b.off,none⟩ (m + 1) cb new' hlenn hcell (L_one hLn) hroom hfit
     have htake:(cur.toList.take (n * i.size) ++ new' ++ cur.toList.drop (n * i.size + new'.length)).toArray.toList.take ((n + (m + 1)) * i.size) = cur.toList.take (n * i.size) ++ new':=by
      have e1:(cur.toList.take (n * i.size) ++ new').length = (n + (m + 1)) * i.size:=by rw [← hLL.length,hlen2]
      simp only
      rw [← e1,List.take_append_of_le_length (Nat.le_refl _),List.take_length]
     have hsize:(cur.toList.take (n * i.size) ++ new' ++ cur.toList.drop (n * i.size + new'.length)).toArray.size = gx.n:=by simp; omega
     obtain ⟨o1,o2⟩:=OR_own (nm:=s.c) (el:=el) (fr:=(0,0)) (w':=w.setRow gx.b _) h0c (setRow_heap w gx.b cur _ e2 (0,0) hwx) hsize (by omega) hroom htake hLL hlen2
     refine ⟨_,_,_,o2,Post.anew hS hh (by simp) (setRow_out _ _ _) (by simpa using hS.rel.bnd _ _ hgx) (.inr ⟨xa.block,gx,h3',hlivex,hgx,rfl,hdead⟩) (fun k _ hk => setRow_other _ _ _ _ hk) o1,fun o ho => .inl (hexec a w _ o _ ho ?_)⟩
     rw [hxe',hye']
     exact hrun
    ·obtain ⟨v',w',hrun,hown,hgr⟩:=run_append_arg_grows (P:=P) w t 0 el i zs i.size i.bytes hd hi hz rfl rfl hzs' hpos' ⟨gx.b,0,none⟩ n cx (cur.toList.take (n * i.size)) (by rw [← hLo.length,holdl]) holdc ⟨gb.b,b.off,none⟩ (m + 1) cb new' hlenn hcell (by omega) h63 hbytes
     obtain ⟨_,⟨_,hz0⟩ | ⟨g,cap,cur2,rfl,hgb',hgw,hnc,_,hcur,htake⟩⟩:=hown
     ·omega
     obtain ⟨o1,o2⟩:=OR_own (nm:=s.c) (el:=el) (fr:=(0,0)) (w':=w') h0c hgw hcur (Nat.le_refl _) hnc htake hLL hlen2
     refine ⟨_,_,w',o2,Post.anew hS hh hgr.size ⟨hgr.os,hgr.tape,hgr.output⟩ (Array.getElem?_eq_some_iff.1 hgw).1 (.inl hgb') (fun k hk _ => hgr.block k hk (by simp)) o1,fun o ho => .inl (hexec a w w' o _ ho ?_)⟩
     rw [hxe',hye']
     exact hrun
end Xe
namespace Xe
variable {P:Program}
theorem comp_cls {op:Op} {f:F} (h:comp P op = some f) :
  (cls op = 0 ∧ RSim P op f) ∨ (cls op = 1 ∧ ASim P op f) ∨ (cls op = 2 ∧ (ESim P op f ∨ (∃ c g,op = .call c ∧ c.callee = .value g ∧ f = fCall g c.args.toList) ∨ (∃ c g,op = .defer c ∧ c.callee = .value g ∧ f = fDefer g c.args.toList))):=by
 unfold comp at h
 split at h
 case h_1 => cases h; exact .inl ⟨rfl,sim_move _⟩
 case h_2 => cases h; exact .inl ⟨rfl,sim_assign _⟩
 case h_3 => cases h; exact .inl ⟨rfl,sim_pick _ _ _⟩
 case h_4 =>
  obtain ⟨d,hd,h⟩:=oB_some.1 h
  split at h
  ·rename_i ht
   obtain ⟨n,hn,h⟩:=oB_some.1 h
   cases h
   exact .inl ⟨rfl,sim_loadN _ ht hn⟩
  ·rename_i ht
   cases h
   exact .inl ⟨rfl,sim_load1 _ ht (by unfold und at hd; simp [hd])⟩
 case h_5 => cases h; exact .inl ⟨rfl,sim_nil _⟩
 case h_6 => cases h; exact .inl ⟨rfl,sim_bin _ _⟩
 case h_7 => cases h; exact .inl ⟨rfl,sim_not _⟩
 case h_8 =>
  obtain ⟨d,hd,h⟩:=oB_some.1 h
  split at h
  ·rename_i k hk; cases h; exact .inl ⟨rfl,sim_conv _ hd hk⟩
  ·cases h
 case h_9 => cases h; exact .inl ⟨rfl,sim_func _ _ _⟩
 case h_10 => exact .inl ⟨rfl,sim_slice h⟩
 case h_11 => exact .inl ⟨rfl,sim_fieldAddr h⟩
 case h_12 => exact .inl ⟨rfl,sim_field h⟩
 case h_13 => exact .inl ⟨rfl,sim_indexAddr h⟩
 case h_14 => exact .inl ⟨rfl,sim_index h⟩
 case h_15 => exact .inl ⟨rfl,sim_lookup h⟩
 case h_16 => cases h; exact .inl ⟨rfl,sim_ext _ _⟩
 case h_17 => exact .inl ⟨rfl,sim_build h⟩
 case h_18 c =>
  unfold compC at h
  split at h
  ·rename_i g hg
   cases h
   exact .inr (.inr ⟨by simp [cls,hg],.inr (.inl ⟨c,g,rfl,hg,rfl⟩)⟩)
  ·rename_i b hb
   cases b
   case len => exact .inl ⟨by simp [cls,hb],sim_len hb h⟩
   case append => exact .inr (.inr ⟨by simp [cls,hb],.inl (sim_app hb h)⟩)
   case delete => exact .inr (.inr ⟨by simp [cls,hb],.inl (sim_del hb h)⟩)
   all_goals (unfold compB at h; cases h)
  ·cases h
 case h_19 =>
  obtain ⟨z,hz,h⟩:=oB_some.1 h
  rw [guardB_some] at h
  obtain ⟨hok,h⟩:=h
  cases h
  exact .inr (.inl ⟨rfl,sim_alloc hz hok⟩)
 case h_20 => cases h; exact .inr (.inl ⟨rfl,sim_box _ _⟩)
 case h_21 => exact .inr (.inl ⟨rfl,sim_row h⟩)
 case h_22 => cases h; exact .inr (.inl ⟨rfl,sim_makeMap _⟩)
 case h_23 => exact .inr (.inl ⟨rfl,sim_make h⟩)
 case h_24 =>
  obtain ⟨n,hn,h⟩:=oB_some.1 h
  cases h
  exact .inr (.inr ⟨rfl,.inl (sim_store _ _ hn)⟩)
 case h_25 =>
  split at h
  ·rename_i kt el hd
   obtain ⟨ks,hks,h⟩:=oB_some.1 h
   cases h
   exact .inr (.inr ⟨rfl,.inl (sim_upd _ _ _ hd hks _ (.inl rfl))⟩)
  ·cases h
 case h_26 =>
  split at h
  ·rename_i kt el hd
   obtain ⟨ks,hks,h⟩:=oB_some.1 h
   cases h
   exact .inr (.inr ⟨rfl,.inl (sim_upd _ _ _ hd hks _ (.inr rfl))⟩)
  ·cases h
 case h_27 c =>
  split at h
  ·rename_i g hg
   cases h
   exact .inr (.inr ⟨rfl,.inr (.inr ⟨c,g,rfl,hg,rfl⟩)⟩)
  ·cases h
 case h_28 => cases h
def NameOk (P:Program):Prop:=∀ (f:Nat) (fn:Func),P.funcs[f]? = some fn → (fn.name == "runtime.NumGoroutine") = false
def HasBody (P:Program) (f:FuncId):Prop:=∃ fn c,P.funcs[f]? = some fn ∧ fn.body = some c
theorem run_callFunc (hN:NameOk P) {f:FuncId} (hb:HasBody P f) (args:Array Value) (w:World):(callFunc f args).run P w = .ok (.enter f args) w:=by
 obtain ⟨fn,c,hf,hc⟩:=hb
 have:=hN f fn hf
 simp [callFunc,hf,hc]
 simpa using this
def CallAt (P:Program) (f:FuncId) (args:List Value) (s:S) (v:Value) (s':S):Prop:=s'.ds = s.ds ∧ HasBody P f ∧
 ∀ (φ:Ph) (w:World) (args':Array Value),L (V φ) args args'.toList → Stt φ s w → Calls P f args' w fun e w' => ∃ φ' v',e = .returned v' ∧ V φ' v v' ∧ Post φ s w φ' s' w'
def CallOk (P:Program) (call:Cl):Prop:=∀ f args s v s',call f args s = some (v,s') → CallAt P f args s v s'
def CallOkD (P:Program) (call:Cl):Prop:=∀ f args s v s',call f args s = some (v,s') → s'.ds = s.ds ∧ HasBody P f ∧
 ∀ (φ:Ph) (w:World) (args':Array Value) (u:FrameMode),L (V φ) args args'.toList → Stt φ s w → CallsD P f args' u w fun e u' w' => u' = u ∧ ∃ φ' v',e = .returned v' ∧ V φ' v v' ∧ Post φ s w φ' s' w'
def DR (φ:Ph) (d:FuncId × List Value) (d':Deferred):Prop:=∃ cap,d'.target = .fn (.func d.1) cap ∧ L (V φ) d.2 (d'.args ++ cap).toList
theorem DR.mono {φ φ':Ph} (h:Sub φ φ') {d:FuncId × List Value} {d':Deferred} (r:DR φ d d'):DR φ' d d':=r.elim fun cap hc => ⟨cap,hc.1,hc.2.mono fun _ _ => V.mono h⟩
theorem callee_some {v:Value} {args:List Value} {g:FuncId} {as':List Value} (h:callee v args = some (g,as')):∃ first cap,v = .func (.func g) first cap ∧ as' = first.toList ++ (args ++ cap.toList):=by
 unfold callee at h
 obtain ⟨fn,first,cap,rfl,h⟩:=vFn_some.1 h
 cases fn with
 | func g' =>
  have h':some (g',aL first ++ (args ++ aL cap)) = some (g,as'):=h
  cases h'
  rw [aL_eq,aL_eq]
  exact ⟨first,cap,rfl,rfl⟩
 | method _ => cases h
 | methodOf _ _ => cases h
 | via _ _ _ _ => cases h
 | yield _ => cases h
theorem L0_V {φ:Ph} {l l':List Value} (h:L (V0 φ) l l'):L (V φ) l l':=h.mono fun _ _ => V.of0
theorem resolve_sim {φ:Ph} {e:En} {a:Act} {c:Call} {g:Operand} (hc:c.callee = .value g) {f:FuncId} {as':List Value} (hE:∀ x ∈ c.operands,V φ (ev e x) (a.eval x))
  (h:callee (ev e g) (evs e c.args.toList) = some (f,as')) (ty:TypeId):∃ cap' ar',resolve a.eval c ty = pure { target:=.fn (.func f) cap',args:=ar' } ∧ L (V φ) as' (ar' ++ cap').toList:=by
 obtain ⟨first,cap,hv,rfl⟩:=callee_some h
 have hg:=hE g (by simp [Call.operands,hc])
 rw [hv] at hg
 obtain ⟨first',cap',hg',hf,hcap⟩:=V_fn hg
 refine ⟨cap',first' ++ c.args.map a.eval,?_,?_⟩
 ·obtain ⟨cal,args,ats⟩:=c
  simp only at hc
  subst hc
  simp only [resolve,hg',Deferred.ofValue]
 ·simp only [Array.toList_append,Array.toList_map,List.append_assoc]
  refine (L0_V hf).app (L.app ?_ (L0_V hcap))
  rw [evs_eq]
  exact L_map fun x hx => hE x (by simp [Call.operands,hc]; exact .inr (by simpa using hx))
end Xe
end Go.Proofs.YtbioaoangfiijaaGreatDoor
