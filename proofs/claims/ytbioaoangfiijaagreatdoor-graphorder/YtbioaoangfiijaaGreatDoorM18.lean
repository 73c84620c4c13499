/- The walk of whole. -/
import Derived.Test.YtbioaoangfiijaaGreatDoorM17
set_option maxRecDepth 100000
set_option maxHeartbeats 4000000
namespace Go.Proofs.YtbioaoangfiijaaGreatDoor
open Go.RowKit
namespace Sm
def parV (me:Sy.Df):Vars:=if me.kind = 4 then [] else me.params.map (fun p => (p.name,p.ty))
theorem look_new {ps:List Sy.Pm} (hn:(ps.map (·.name)).Nodup) {j:Nat} {p:Sy.Pm} (hp:ps[j]? = some p):Sm.look ((ps.take j).map (fun p => (p.name,p.ty))) p.name = none:=by
 unfold Sm.look
 rw [Option.map_eq_none_iff,List.find?_eq_none]
 intro x hx
 obtain ⟨q,hq,rfl⟩:=List.mem_map.1 hx
 obtain ⟨k,hk,hqk⟩:=List.getElem_of_mem hq
 have hk':k < j:=by simp at hk; omega
 have h1:(ps.map (·.name))[k]? = some q.name:=by
  have:ps[k]? = some q:=by rw [← hqk]; simp [List.getElem_take]
  rw [List.getElem?_map,this]
  rfl
 have h2:(ps.map (·.name))[j]? = some p.name:=by rw [List.getElem?_map,hp]; rfl
 intro e
 have e':q.name = p.name:=by simpa using e
 rw [e'] at h1
 have:=(List.getElem?_inj (by have:=(List.getElem?_eq_some_iff.1 h1).1; exact this) hn).1 (h1.trans h2.symm)
 omega
theorem whole_any (K:BK) (me:Sy.Df) (i:Nat) (hi:Hid (K.num = (i:Int))) (HMe:Hid (K.l[i]? = some me)) (n m:Nat) (w:World) (r:Except Int (Value × Vars × Tk)) (h:Hid (BW K w [] Tk.none)) (hnd:Hid (me.kind ≠ 4 → (me.params.map (·.name)).Nodup ∧ me.params.length ≤ 6)) (hn:Hid (Sy.bodyOf (Sy.stW 39) me.body n = .ok m)) (h2:n ≤ 2000)
  (hr:Hid (r = andThen (inner (stat K.l me 39) me.body (parV me) Tk.none) fun t => .ok (.tuple #[],parV me,t))) :
  Calls Tryz.prog 43 #[.pointer (some ⟨K.F,0,none⟩)] w fun e w' => Bf K w [] r e w':=by
 have hF:=h.out.lt
 obtain ⟨o,sn,rr,cc,h4⟩:=h.out.rows
 obtain ⟨c0,c1,c2,_⟩:=bd_cells h4.blk
 rw [hi.out] at c2
 have hB0:K.B ≤ w.heap.size:=by have:=h.out.base; omega
 have HD0:Hid (DfsIn K.B w K.l K.a):=h.out.dfs
 clear h4
 go_enter Tryz.func43,Tryz.ntmps43
 go_wp2_with fail
 refine (def_any K.B K.l K.a K.c K.M i me w HD0 hB0 HMe).mono ?_
 rintro e w1 ⟨hg1,val,rfl,pa,pc,ba,bc,rfl,hdf⟩
 have HB1:Hid (BW K w1 [] Tk.none):=h.out.grown hg1
 have HK1:Hid (Kpt K w w1):=Kpt.grown hg1 hF
 obtain ⟨W2,hW2⟩:∃ W2,W2 = w1.alloc (dfB me pa pc ba bc):=⟨_,rfl⟩
 have HW2:Hid (W2 = _):=hW2
 have HK12:Hid (Kpt K w1 W2):=by rw [hW2]; exact Kpt.alloc K w1 _ HB1.out.lt
 have HK2:Hid (Kpt K w W2):=HK1.out.trans HK12.out
 have HB2:Hid (BW K W2 [] Tk.none):=by rw [hW2]; exact HB1.out.grown (grown_a _)
 have HDb:Hid (W2.heap[w1.heap.size]? = some (dfB me pa pc ba bc) ∧ Free K W2 w1.heap.size):=by rw [hW2]; exact HB1.out.new _
 have HDf:Hid (DfIn K.B W2 me pa ba):=hdf.same (h.out.same HK2.out)
 clear hg1 hdf hW2 c0 c1 c2
 by_cases h4:me.kind = 4
 ·have e4:(me.kind != 4) = false:=by simp [h4]
  have HPV:Hid (parV me = []):=by unfold Hid; unfold parV; rw [if_pos h4]
  have HRr:Hid (r = andThen (inner (stat K.l me 39) me.body [] Tk.none) fun t => .ok (.tuple #[],[],t)):=by unfold Hid; rw [hr.out,HPV.out]
  clear h4
  go_wp2_with fail
  rw [← HW2.out]
  obtain ⟨eb,heb⟩:∃ eb,eb = inner (stat K.l me 39) me.body ([]:Vars) Tk.none:=⟨_,rfl⟩
  have HEB:Hid (eb = inner (stat K.l me 39) me.body ([]:Vars) Tk.none):=heb
  have HRb:Hid (r = andThen eb fun t => .ok (.tuple #[],([]:Vars),t)):=by unfold Hid; rw [HRr.out,heb]
  have HRow:Hid (∃ h,RowIn K.B W2 (StIn K.B W2 h) me.body ba):=by
   obtain ⟨hh,hR⟩:=HDf.out.2.2.2.2
   have hsm:=HB2.out.same (Kpt.refl K W2)
   exact ⟨hh,hR.2.same hsm (fun s x b e => StIn.same hsm hh s x b e)⟩
  obtain ⟨_,_,_,_,_,_,_,_,nb8⟩:=nine_cell ((Kpt.refl K W2).at HDb.out).1
  clear heb
  refine ((block_any K me 39 (hid (stat_any K me i hi HMe 39))) me.body ba bc ([]:Vars) Tk.none n m _ _ HB2 HRow hn (hid ⟨Nat.zero_le _,Nat.zero_le _,Nat.zero_le _⟩) (hid (Nat.zero_le _)) h2 (by rw [← HEB.out]; exact rfl)).mono ?_
  rintro e w9 ⟨hk9,he9⟩
  have HK9:Hid (Kpt K w w9):=(HK2.out.trans (Kpt.refl K W2)).trans hk9
  clear hk9
  cases eb with
  | error y =>
   obtain ⟨rfl,v2,t2,hb2,hp2⟩:=he9
   have HE:Hid (Bf K w [] r (.panicked [fltE y K.num]) w9):=by
    rw [HRb.out]
    exact ⟨HK9.out,rfl,v2,t2,hb2,List.nil_prefix⟩
   clear hb2 hp2
   go_wp2
   exact ⟨rfl,HE.out⟩
  | ok t2 =>
   obtain ⟨rfl,hb9⟩:=he9
   have HE:Hid (Bf K w [] r (.returned (.tuple #[])) w9):=by
    rw [HRb.out]
    exact ⟨HK9.out,rfl,hb9⟩
   clear hb9
   go_wp2
   go_end0
   exact HE.out
 ·have e4:(me.kind != 4) = true:=by simpa using h4
  obtain ⟨hnn,hl6⟩:=hnd.out h4
  have HNN:=hid hnn
  have HPV:Hid (parV me = me.params.map (fun p => (p.name,p.ty))):=by unfold Hid; unfold parV; rw [if_neg h4]
  have HRr:Hid (r = andThen (inner (stat K.l me 39) me.body (me.params.map (fun p => (p.name,p.ty))) Tk.none) fun t => .ok (.tuple #[],me.params.map (fun p => (p.name,p.ty)),t)):=by unfold Hid; rw [hr.out,HPV.out]
  obtain ⟨np,hnp⟩:∃ np,np = me.params.length:=⟨_,rfl⟩
  have HNP:Hid (np = me.params.length):=hnp
  have h6:np ≤ 6:=by rw [hnp]; exact hl6
  clear h4 hnn hl6 hnp
  go_wp2
  rw [← HW2.out]
  go_loopw [16] (fun q wr => ∃ j:Nat,q = .int .i64 j ∧ j ≤ np ∧ Hid (BW K wr ((me.params.take j).map (fun p => (p.name,p.ty))) Tk.none) ∧ Hid (Kpt K W2 wr)) (fun q _ => np - (intOf q).toNat)
  case atStart => exact ⟨0,rfl,Nat.zero_le _,HB2,Kpt.refl _ _⟩
  case round =>
   obtain ⟨j,rfl,hj,HB,HK⟩:=hrel
   have hFr:=HB.out.lt
   by_cases hlt:j < np
   ·have hj1:j < me.params.length:=by rw [← HNP.out]; exact hlt
    obtain ⟨p,hp⟩:∃ p,me.params[j]? = some p:=⟨_,List.getElem?_eq_getElem hj1⟩
    obtain ⟨pb,po,hpa,hpb,p0,p1,p2,_⟩:=(HDf.out.2.2.2.1.same (HB2.out.same HK.out)).2 j p hp
    have HLn:Hid (Sm.look ((me.params.take j).map (fun p => (p.name,p.ty))) p.name = none):=look_new HNN.out hp
    have HTk:Hid ((me.params.take j).map (fun p => (p.name,p.ty)) ++ [(p.name,p.ty)] = (me.params.take (j + 1)).map (fun p => (p.name,p.ty))):=by
     unfold Hid
     rw [List.take_succ_eq_append_getElem hj1,List.map_append,(List.getElem?_eq_some_iff.1 hp).2]
     rfl
    obtain ⟨W3,hW3⟩:∃ W3,W3 = wr.alloc (pmB p):=⟨_,rfl⟩
    have HW3:Hid (W3 = _):=hW3
    have HK3:Hid (Kpt K wr W3):=by rw [hW3]; exact Kpt.alloc K wr _ hFr
    have HB3:Hid (BW K W3 ((me.params.take j).map (fun p => (p.name,p.ty))) Tk.none):=by rw [hW3]; exact HB.out.grown (grown_a _)
    have HP3:Hid (W3.heap[wr.heap.size]? = some (pmB p) ∧ Free K W3 wr.heap.size):=by rw [hW3]; exact HB.out.new _
    have HS:Hid (∀ w',Kpt K W3 w' → w'.cell? ⟨wr.heap.size,0,none⟩ = some (.string p.name) ∧ w'.cell? ⟨wr.heap.size,1,none⟩ = some (.int .i64 p.ty.kind) ∧ w'.cell? ⟨wr.heap.size,2,none⟩ = some (.string p.ty.gen)):=fun w' hk => three_cell (hk.at HP3.out).1
    have hbw:pb < wr.heap.size:=by have:=HB.out.base; omega
    have HJ:Hid (j + 1 ≤ np):=hlt
    have hjp:(j:Int) < (np:Int):=by omega
    subst hpa
    clear hp hW3
    go_wp2_with fail
    rw [← HW3.out]
    refine wp_region_held_drew (S:=fun w' => w'.cell? ⟨wr.heap.size,0,none⟩ = some (.string p.name) ∧ w'.cell? ⟨wr.heap.size,1,none⟩ = some (.int .i64 p.ty.kind) ∧ w'.cell? ⟨wr.heap.size,2,none⟩ = some (.string p.ty.gen)) (by kernel_rfl) (HS.out W3 (Kpt.refl _ _)) (fun hHeld => ?_)
    refine tk 0 (v:=?_) rfl ?_ (by assumption) ?_
    rotate_left
    ·intro w hSw
     (try dsimp only at hSw)
     go_simp
     (try with_reducible rfl)
    (try go_frame)
    refine tk 1 (v:=?_) rfl ?_ (by assumption) ?_
    rotate_left
    ·intro w hSw
     (try dsimp only at hSw)
     go_simp
     (try with_reducible rfl)
    (try go_frame)
    refine tk 2 (v:=?_) rfl ?_ (by assumption) ?_
    rotate_left
    ·intro w hSw
     (try dsimp only at hSw)
     go_simp
     (try with_reducible rfl)
    (try go_frame)
    refine tk 3 (v:=?_) rfl ?_ (by assumption) ?_
    rotate_left
    ·intro w hSw
     (try dsimp only at hSw)
     go_simp
     (try with_reducible rfl)
    (try go_frame)
    refine tk 4 (v:=?_) rfl ?_ (by assumption) ?_
    rotate_left
    ·intro w hSw
     (try dsimp only at hSw)
     go_simp
     (try with_reducible rfl)
    (try go_frame)
    refine tk 5 (v:=?_) rfl ?_ (by assumption) ?_
    rotate_left
    ·intro w hSw
     (try dsimp only at hSw)
     go_simp
     (try with_reducible rfl)
    (try go_frame)
    refine tk 6 (v:=?_) rfl ?_ (by assumption) ?_
    rotate_left
    ·intro w hSw
     (try dsimp only at hSw)
     go_simp
     (try with_reducible rfl)
    (try go_frame)
    refine wpAnyH_ready (rs:=[7]) (by kernel_rfl) (by simp) ?_
    refine AllReadyH.cons (o:=_) rfl (fun K' hK => ?_) AllReadyH.nil
    go_simp
    refine (let_any K _ Tk.none p.name p.ty W3.drew (by exact HB3.out.drew) HLn (by simp; omega)).mono ?_
    rintro e w4 ⟨rfl,hb4,hk4'⟩
    have HK4:Hid (Kpt K W3 w4):=hk4'.ofDrew
    rw [HTk.out] at hb4
    have HB4:Hid (BW K w4 ((me.params.take (j + 1)).map (fun p => (p.name,p.ty))) Tk.none):=hb4
    refine hK.out _ _ (HS.out w4 HK4.out) (fun hHeld => ?_)
    clear hK hb4 hk4' hHeld
    refine wpAnyH_done (by kernel_rfl) ?_ _
    go_wp2
    go_roundw
    case rel => exact ⟨j + 1,by go_num,HJ.out,HB4,(HK.out.trans HK3.out).trans HK4.out⟩
    case measure => have:=HJ.out; simp [intOf]; omega
   ·have HBe:Hid (BW K wr (me.params.map (fun p => (p.name,p.ty))) Tk.none):=by
     have h1:=HB.out
     have h2:=HNP.out
     rw [List.take_of_length_le (by omega)] at h1
     exact h1
    have HVe:Hid ((me.params.map (fun p => (p.name,p.ty))).length ≤ n + 10):=by have h2:=HNP.out; unfold Hid; rw [List.length_map]; omega
    have hjp:¬ (j:Int) < (me.params.length:Int):=by have h2:=HNP.out; omega
    obtain ⟨eb,heb⟩:∃ eb,eb = inner (stat K.l me 39) me.body (me.params.map (fun p => (p.name,p.ty))) Tk.none:=⟨_,rfl⟩
    have HEB:Hid (eb = inner (stat K.l me 39) me.body (me.params.map (fun p => (p.name,p.ty))) Tk.none):=heb
    have HRb:Hid (r = andThen eb fun t => .ok (.tuple #[],(me.params.map (fun p => (p.name,p.ty))),t)):=by unfold Hid; rw [HRr.out,heb]
    have HRow:Hid (∃ h,RowIn K.B wr (StIn K.B wr h) me.body ba):=by
     obtain ⟨hh,hR⟩:=HDf.out.2.2.2.2
     have hsm:=HB2.out.same HK.out
     exact ⟨hh,hR.2.same hsm (fun s x b e => StIn.same hsm hh s x b e)⟩
    obtain ⟨_,_,_,_,_,_,_,_,nb8⟩:=nine_cell ((HK.out).at HDb.out).1
    clear heb
    go_wp2_with fail
    refine ((block_any K me 39 (hid (stat_any K me i hi HMe 39))) me.body ba bc (me.params.map (fun p => (p.name,p.ty))) Tk.none n m _ _ HBe HRow hn (hid ⟨Nat.zero_le _,Nat.zero_le _,Nat.zero_le _⟩) HVe h2 (by rw [← HEB.out]; exact rfl)).mono ?_
    rintro e w9 ⟨hk9,he9⟩
    have HK9:Hid (Kpt K w w9):=(HK2.out.trans HK.out).trans hk9
    clear hk9
    cases eb with
    | error y =>
     obtain ⟨rfl,v2,t2,hb2,hp2⟩:=he9
     have HE:Hid (Bf K w [] r (.panicked [fltE y K.num]) w9):=by
      rw [HRb.out]
      exact ⟨HK9.out,rfl,v2,t2,hb2,List.nil_prefix⟩
     clear hb2 hp2
     go_wp2
     exact ⟨rfl,HE.out⟩
    | ok t2 =>
     obtain ⟨rfl,hb9⟩:=he9
     have HE:Hid (Bf K w [] r (.returned (.tuple #[])) w9):=by
      rw [HRb.out]
      exact ⟨HK9.out,rfl,hb9⟩
     clear hb9
     go_wp2
     go_end0
     exact HE.out
end Sm
namespace Sm
structure Fit (l:List Sy.Df):Prop where
 heads:∀ (i:Nat) (d:Sy.Df),l[i]? = some d → Sm.head l d = .ok ()
 kinds:∀ (i:Nat) (d:Sy.Df),l[i]? = some d → 1 ≤ d.kind ∧ d.kind ≤ 4
 forms:∀ (i:Nat) (d:Sy.Df),l[i]? = some d → d.kind ≠ 1 → ((d.kind = 2 ∨ d.kind = 3) → d.params.length ≤ 6) ∧ ∃ n m,n ≤ 2000 ∧ Sy.bodyOf (Sy.stW 39) d.body n = .ok m
theorem params_nodup {l:List Sy.Df}:∀ {ps:List Sy.Pm} {seen:List ByteArray},Sm.params l ps seen = .ok () → (∀ p ∈ ps,p.name ∉ seen) ∧ (ps.map (·.name)).Nodup
 | [],_,_ => ⟨fun p hp => (by cases hp),by simp⟩
 | p :: ps,seen,h => by
  rw [Sm.params] at h
  split at h
  ·cases h
  ·rename_i hs
   have hns:p.name ∉ seen:=fun hm => hs (by rw [List.any_eq_true]; exact ⟨_,hm,by simp⟩)
   have h':Sm.params l ps (seen ++ [p.name]) = .ok ():=by
    split at h
    ·obtain ⟨_,_,h2⟩:=andThen_yes h
     exact h2
    ·exact h
   obtain ⟨h1,h2⟩:=params_nodup h'
   refine ⟨fun q hq => ?_,?_⟩
   ·rcases List.mem_cons.1 hq with rfl | hq
    ·exact hns
    ·exact fun hm => h1 q hq (List.mem_append_left _ hm)
   ·rw [List.map_cons,List.nodup_cons]
    refine ⟨fun hm => ?_,h2⟩
    obtain ⟨q,hq,he⟩:=List.mem_map.1 hm
    exact h1 q hq (by rw [he]; simp)
theorem Fit.params {l:List Sy.Df} (h:Fit l) {i:Nat} {d:Sy.Df} (hd:l[i]? = some d) (h1:d.kind ≠ 1) (h4:d.kind ≠ 4):(d.params.map (·.name)).Nodup ∧ d.params.length ≤ 6:=by
 have hk:=h.kinds i d hd
 have hh:=h.heads i d hd
 have h23:d.kind = 2 ∨ d.kind = 3:=by omega
 refine ⟨?_,(h.forms i d hd h1).1 h23⟩
 unfold Sm.head at hh
 rw [if_neg h1] at hh
 rcases h23 with e | e
 ·rw [if_pos e] at hh
  obtain ⟨_,h2,_⟩:=andThen_yes hh
  exact (params_nodup h2).2
 ·rw [if_neg (by omega),if_pos e] at hh
  obtain ⟨_,h2,_⟩:=andThen_yes hh
  exact (params_nodup h2).2
structure TaAt (B:Nat) (w:World) (Tb n:Nat) (cs:List Value) (ts:Nat → Tk):Prop where
 blk:w.heap[Tb]? = some (.cells cs.toArray 96 (0,0))
 len:cs.length = n * 3
 row:∀ i,i < n → ∃ sn rc cl,cs[i * 3]? = some sn ∧ cs[i * 3 + 1]? = some rc ∧ cs[i * 3 + 2]? = some cl ∧ w.ownsRow B 3 1 sn (ts i).sends.length (nats (ts i).sends) ∧ w.ownsRow B 3 1 rc (ts i).recvs.length (nats (ts i).recvs) ∧ w.ownsRow B 3 1 cl (ts i).calls.length (nats (ts i).calls)
theorem TaAt.keep {B:Nat} {w w':World} {Tb n:Nat} {cs:List Value} {ts:Nat → Tk} (h:TaAt B w Tb n cs ts) (hk:∀ (k:Nat) (o:Array Value) (e:TypeId),w.heap[k]? = some (.cells o e (0,0)) → w'.heap[k]? = w.heap[k]?):TaAt B w' Tb n cs ts :=
 ⟨(hk _ _ _ h.blk).trans h.blk,h.len,fun i hi => by
  obtain ⟨sn,rc,cl,c1,c2,c3,o1,o2,o3⟩:=h.row i hi
  exact ⟨sn,rc,cl,c1,c2,c3,own_keep o1 (fun k hb => by obtain ⟨_,_,cur,hc⟩:=own_lt o1 k hb; exact hk _ _ _ hc),own_keep o2 (fun k hb => by obtain ⟨_,_,cur,hc⟩:=own_lt o2 k hb; exact hk _ _ _ hc),own_keep o3 (fun k hb => by obtain ⟨_,_,cur,hc⟩:=own_lt o3 k hb; exact hk _ _ _ hc)⟩⟩
theorem TaAt.put {B:Nat} {w:World} {Tb n i:Nat} {cs:List Value} {ts:Nat → Tk} {t:Tk} {sn rc cl:Value} (h:TaAt B w Tb n cs ts) (hi:i < n) (o1:w.ownsRow B 3 1 sn t.sends.length (nats t.sends)) (o2:w.ownsRow B 3 1 rc t.recvs.length (nats t.recvs)) (o3:w.ownsRow B 3 1 cl t.calls.length (nats t.calls)) :
  TaAt B (((w.setCell ⟨Tb,i * 3,none⟩ sn).setCell ⟨Tb,i * 3 + 1,none⟩ rc).setCell ⟨Tb,i * 3 + 2,none⟩ cl) Tb n (((cs.set (i * 3) sn).set (i * 3 + 1) rc).set (i * 3 + 2) cl) (fun k => if k = i then t else ts k):=by
 have hlen:=h.len
 have far:∀ {v:Value} {m:Nat} {xs:List Value},w.ownsRow B 3 1 v m xs → (((w.setCell ⟨Tb,i * 3,none⟩ sn).setCell ⟨Tb,i * 3 + 1,none⟩ rc).setCell ⟨Tb,i * 3 + 2,none⟩ cl).ownsRow B 3 1 v m xs:=fun {v m xs} ho => own_keep ho fun k hk => by
  obtain ⟨_,_,cur,hc⟩:=own_lt ho k hk
  have hne:k ≠ Tb:=fun e => by rw [e,h.blk] at hc; cases hc
  exact (Below.heap_setCell _ ⟨Tb,_,none⟩ _ k hne).trans ((Below.heap_setCell _ ⟨Tb,_,none⟩ _ k hne).trans (Below.heap_setCell _ ⟨Tb,_,none⟩ _ k hne))
 refine ⟨set_at (set_at (set_at h.blk _ _) _ _) _ _,by simp [hlen],fun k hk => ?_⟩
 by_cases e:k = i
 ·subst e
  refine ⟨sn,rc,cl,?_,?_,?_,by simpa using far o1,by simpa using far o2,by simpa using far o3⟩
  ·rw [List.getElem?_set_ne (by omega),List.getElem?_set_ne (by omega),List.getElem?_set_self (by omega)]
  ·rw [List.getElem?_set_ne (by omega),List.getElem?_set_self (by simp; omega)]
  ·rw [List.getElem?_set_self (by simp; omega)]
 ·obtain ⟨s',r',c',c1,c2,c3,p1,p2,p3⟩:=h.row k hk
  simp only [if_neg e]
  refine ⟨s',r',c',?_,?_,?_,far p1,far p2,far p3⟩
  ·rw [List.getElem?_set_ne (by omega),List.getElem?_set_ne (by omega),List.getElem?_set_ne (by omega)]; exact c1
  ·rw [List.getElem?_set_ne (by omega),List.getElem?_set_ne (by omega),List.getElem?_set_ne (by omega)]; exact c2
  ·rw [List.getElem?_set_ne (by omega),List.getElem?_set_ne (by omega),List.getElem?_set_ne (by omega)]; exact c3
theorem BW.begin {l:List Sy.Df} {a:Option Addr} {c M i B:Nat} {R:Ms.Row} {wr:World} (o:Obj) (hD:DfsIn B wr l a) (hG:Gl B wr) (hB:B ≤ wr.heap.size) (hM:Ms.In wr M R) (hBM:B ≤ M) (hn:∀ s,Ms.val R s = (numOf l s).map (fun i => .int .i64 (i:Int))) :
  BW ⟨l,a,c,M,i,wr.heap.size + 1,wr.heap.size + 1 + 1,B,R⟩ (((wr.alloc o).alloc (.map #[] 0)).alloc (bdO l.length a c M i (wr.heap.size + 1) (.slice none 0 0) (.slice none 0 0) (.slice none 0 0) (.slice none 0 0))) [] Tk.none:=by
 obtain ⟨W,hW⟩:∃ W,W = ((wr.alloc o).alloc (.map #[] 0)).alloc (bdO l.length a c M i (wr.heap.size + 1) (.slice none 0 0) (.slice none 0 0) (.slice none 0 0) (.slice none 0 0)):=⟨_,rfl⟩
 have hg:wr.grownBy W none:=by rw [hW]; exact grown_trans (grown_a2 _ _) (grown_a _)
 have hF:W.heap[wr.heap.size + 1 + 1]? = some (bdO l.length a c M i (wr.heap.size + 1) (.slice none 0 0) (.slice none 0 0) (.slice none 0 0) (.slice none 0 0)):=by
  rw [hW]
  have:=heap_alloc_new ((wr.alloc o).alloc (.map #[] 0)) (bdO l.length a c M i (wr.heap.size + 1) (.slice none 0 0) (.slice none 0 0) (.slice none 0 0) (.slice none 0 0))
  rw [World.size_alloc,World.size_alloc] at this
  exact this
 have hT:Ms.In W (wr.heap.size + 1) []:=by
  rw [hW]
  have:=Ms.In.new (wr.alloc o)
  rw [World.size_alloc] at this
  exact this.grow (grown_a _)
 rw [← hW]
 have hs:=same_grown (B:=B) hg (by simp) hB
 have hMl:=hM.lt
 exact ⟨DG.same (K:=⟨l,a,c,M,i,wr.heap.size + 1,wr.heap.size + 1 + 1,B,R⟩) ⟨hD,hG⟩ hs,⟨hBM,by dsimp; omega,by dsimp; omega,by dsimp; omega⟩,hM.grow hg,hn,⟨_,_,_,_,hF,World.ownsRow_nil _ _ _ _,World.ownsRow_nil _ _ _ _,World.ownsRow_nil _ _ _ _,World.ownsRow_nil _ _ _ _,fun k => ⟨fun e => by simp [Value.ownBlock] at e,fun e => by simp [Value.ownBlock] at e⟩⟩,hT,by simp⟩
theorem free_begin {l:List Sy.Df} {a:Option Addr} {c M i B k:Nat} {R:Ms.Row} {wr W:World} (hF:W.heap[wr.heap.size + 1 + 1]? = some (bdO l.length a c M i (wr.heap.size + 1) (.slice none 0 0) (.slice none 0 0) (.slice none 0 0) (.slice none 0 0))) (hk:k ≤ wr.heap.size):Free ⟨l,a,c,M,i,wr.heap.size + 1,wr.heap.size + 1 + 1,B,R⟩ W k:=by
 refine ⟨by dsimp; omega,by dsimp; omega,fun o s r cl hb => ?_⟩
 have hb':=hF.symm.trans hb
 obtain ⟨rfl,rfl,rfl,rfl⟩:=obj_inj (K:=⟨l,a,c,M,i,wr.heap.size + 1,wr.heap.size + 1 + 1,B,R⟩) (Option.some.inj hb')
 simp [Value.ownBlock]
end Sm
end Go.Proofs.YtbioaoangfiijaaGreatDoor
