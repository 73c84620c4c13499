/- The walks of caught and of Wrong. -/
import Derived.Test.YtpnljpdpobbiiaaGreatDoorM28
import Derived.Test.YtpnljpdpobbiiaaGreatDoorM26
set_option maxRecDepth 100000
set_option maxHeartbeats 2000000
namespace Go.Proofs.YtpnljpdpobbiiaaGreatDoor
open Go.RowKit
abbrev Z2C:Obj:=.cells #[.int .i64 0,.int .i64 0] 27 (0,0)
theorem caught_any (g:FuncId) (cap:Array Value) (er num:Int) (X:World → Prop) (w:World) (hz:er = 0 → num = 0) (hcf:∀ w:World,(callFunc g cap).run Tryz.prog w = .ok (.enter g cap) w)
  (hw:Calls Tryz.prog g cap (w.alloc Z2C) fun e w' => X w' ∧ w'.heap[w.heap.size]? = some Z2C ∧ Thrown er num e) :
  Calls Tryz.prog 13 #[.func (.func g) #[] cap] w fun e w' => e = .returned (.agg #[.int .i64 er,.int .i64 num]) ∧ ∃ wx,X wx ∧ wx.heap[w.heap.size]? = some Z2C ∧ w' = (wx.setCell ⟨w.heap.size,0,none⟩ (.int .i64 er)).setCell ⟨w.heap.size,1,none⟩ (.int .i64 num):=by
 have hmf:∀ (fn:Fn) (first cap:Array Value) (w:World),(Instr.makeFunc fn first cap).run Tryz.prog w = .ok (.func fn first cap) w:=fun _ _ _ _ => rfl
 go_enter_defers Tryz.func13,Tryz.ntmps13
 go_wp2_with fail
 refine hw.mono ?_
 rintro e w1 ⟨hX,hF,ht⟩
 obtain ⟨c0,c1,f0,f1⟩:=two_cell hF
 have HX:Hid (X w1):=hX
 have HF:Hid (w1.heap[w.heap.size]? = some Z2C):=hF
 clear hX hF
 by_cases h0:er = 0
 ·have hn:=hz h0
  subst h0
  subst hn
  obtain rfl:e = .returned (.tuple #[]):=ht
  clear hw hz
  go_wp2
  refine leaves_cons (f:=28) (args:=#[.pointer (some ⟨w.heap.size,0,none⟩)]) (by simp) (by simp [go_sem]) ?_
  refine (catch_none w.heap.size _).mono ?_
  rintro e u' w'' ⟨rfl,rfl,rfl⟩
  show Leaves _ _ _ _ [] .returning _
  exact ⟨.agg #[.int .i64 0,.int .i64 0],by simp [results,Tryz.results13,go_sem,c0,c1],rfl,w1,HX.out,HF.out,rfl⟩
 ·obtain rfl:e = .panicked [fltE er num]:=by unfold Thrown at ht; rw [if_neg h0] at ht; exact ht
  clear ht hw hz h0
  go_wp2
  refine leaves_cons (f:=28) (args:=#[.pointer (some ⟨w.heap.size,0,none⟩)]) (by simp) (by simp [go_sem]) ?_
  refine (catch_thrown w.heap.size er num [] _ HF.out).mono ?_
  rintro e u' w'' ⟨rfl,rfl,rfl⟩
  show Leaves _ _ _ _ [] .returning _
  exact ⟨.agg #[.int .i64 er,.int .i64 num],by simp [results,Tryz.results13,go_sem,c0,c1],rfl,w1,HX.out,HF.out,rfl⟩
theorem wrongL_zero (l:List Sy.Df):(Sy.wrongL l).1 = 0 → (Sy.wrongL l).2 = 0:=by
 have hd:∀ (l:List Sy.Df) (i n:Nat),(Sy.defsW l i n).1 = 0 → (Sy.defsW l i n).2 = 0:=by
  intro l
  induction l with
  | nil => intro i n _; rfl
  | cons d l ih =>
   intro i n h
   unfold Sy.defsW at h ⊢
   cases hw:Sy.dfW d n with
   | error e => rw [hw] at h; exact absurd h (dfW_ne hw)
   | ok m => rw [hw] at h; exact ih _ _ h
 unfold Sy.wrongL
 split
 ·intro h; simp at h
 ·exact hd _ _ _
theorem wrong_any (l:List Sy.Df) (a:Option Addr) (c:Nat) (w:World) (hX:DfsIn w.heap.size w l a) :
  Calls Tryz.prog 12 #[.slice a l.length c] w fun e w' => e = .returned (.agg #[.int .i64 (Sy.wrongL l).1,.int .i64 (Sy.wrongL l).2]) ∧ Below w.heap.size w w':=by
 obtain ⟨er,her⟩:∃ er,er = (Sy.wrongL l).1:=⟨_,rfl⟩
 obtain ⟨num,hnum⟩:∃ num,num = (Sy.wrongL l).2:=⟨_,rfl⟩
 have HZ:Hid (er = 0 → ((num:Nat):Int) = 0):=by intro h; have:=wrongL_zero l (by rw [← her]; exact h); rw [← hnum] at this; omega
 have HR:Hid ((er,num) = Sy.wrongL l):=by rw [her,hnum]; rfl
 rw [← her,← hnum]
 clear her hnum
 have HX:Hid (DfsIn w.heap.size w l a):=hX
 clear hX
 have hmf:∀ (fn:Fn) (first cap:Array Value) (w:World),(Instr.makeFunc fn first cap).run Tryz.prog w = .ok (.func fn first cap) w:=fun _ _ _ _ => rfl
 go_enter Tryz.func12,Tryz.ntmps12
 go_wp2_with fail
 have HG:Hid (w.grownBy (((w.alloc (.cells #[.slice a l.length c] 22)).alloc Z2C).alloc Z2C) none):=grown_trans (grown_trans (World.grownBy_alloc _ _ _) (World.grownBy_alloc _ _ _)) (World.grownBy_alloc _ _ _)
 refine (caught_any 25 #[.pointer (some ⟨w.heap.size,0,none⟩)] er num (fun w' => w.grownBy w' none ∧ w'.heap[w.heap.size + 1]? = some Z2C) _ HZ.out ?_ ?_).mono ?_
 ·intro w'
  first | rfl | kernel_rfl | simp [go_sem]
 ·refine (wrongf_any w.heap.size w.heap.size l a c er num _ ?_ (HX.out.same (same_grown HG.out (by simp) (Nat.le_refl _))) (by simp; omega) HR).mono ?_
  ·rw [Below.heap_alloc _ _ _ (by simp; omega),Below.heap_alloc _ _ _ (by simp)]
   exact heap_alloc_new w _
  ·rintro e w' ⟨hg,ht⟩
   refine ⟨⟨grown_trans HG.out hg,?_⟩,?_,ht⟩
   ·refine (hg.block _ (by simp) (by simp)).trans ?_
    rw [Below.heap_alloc _ _ _ (by simp)]
    have:=heap_alloc_new (w.alloc (.cells #[.slice a l.length c] 22)) Z2C
    simpa using this
   ·exact (hg.block _ (by simp) (by simp)).trans (heap_alloc_new _ _)
 rintro e w1 ⟨rfl,wx,⟨hg,h2⟩,hF,rfl⟩
 obtain ⟨c0,c1,f0,f1⟩:=two_cell h2
 have HB:Hid (Below w.heap.size w wx):=⟨hg.os,hg.tape,hg.output,hg.size,fun k hk => hg.block k hk (by simp)⟩
 clear hg h2 hF
 go_wp2
 refine bodyPost_ret (v:=.agg #[.int .i64 er,.int .i64 num]) (by simp [results,Tryz.results12,go_sem,c0,c1]) rfl ⟨rfl,?_⟩
 exact (((HB.out.setCell (p:=⟨w.heap.size + 1 + 1,0,none⟩) (by simp; omega) _).setCell (p:=⟨w.heap.size + 1 + 1,1,none⟩) (by simp; omega) _).setCell (p:=⟨w.heap.size + 1,0,none⟩) (by simp) _).setCell (p:=⟨w.heap.size + 1,1,none⟩) (by simp) _
namespace Sm
open Sy
theorem nm_ok {s:ByteArray} (h:nm s = true):s ≠ ⟨#[]⟩ ∧ s.size ≤ 12:=by
 have h':Lx.named s.toList = true:=h
 refine ⟨?_,?_⟩
 ·rintro rfl
  rw [named_bad (.inl rfl)] at h'
  cases h'
 ·by_cases hb:12 < s.size
  ·rw [named_bad (.inr hb)] at h'
   cases h'
  ·omega
theorem head_node {d:Df} {n:Nat} (h:dfHead d n = 0):nodeW d.kind 4 40 n = 0:=by
 by_cases h1:nodeW d.kind 4 40 n = 0
 ·exact h1
 ·unfold dfHead at h
  rw [if_pos h1] at h
  exact h
theorem head_name {d:Df} {n:Nat} (h:dfHead d n = 0):nm d.name = true ∧ (d.kind = 2 ∨ d.kind = 3 → d.params.length ≤ 6):=by
 have h1:=head_node h
 unfold dfHead at h
 rw [if_neg (by simpa using h1)] at h
 cases hn:nm d.name with
 | false => rw [if_pos hn] at h; cases h
 | true =>
  rw [if_neg (by rw [hn]; decide)] at h
  refine ⟨rfl,fun hk => ?_⟩
  by_cases h6:6 < d.params.length
  ·rw [if_pos ⟨hk,h6⟩] at h; cases h
  ·omega
theorem defs_fit:∀ (l:List Df) (i n:Nat),n ≤ 2000 → (defsW l i n).1 = 0 → ∀ (k:Nat) (d:Df),l[k]? = some d → ∃ j,j + 1 ≤ 2000 ∧ dfHead d j = 0 ∧ (d.kind ≠ 1 → ∃ m,bodyOf (stW 39) d.body (j + 1) = .ok m)
 | [],_,_,_,_,k,d,h => by simp at h
 | d :: l,i,n,hn,h,k,d',hd => by
  unfold defsW at h
  cases hw:dfW d n with
  | error e => rw [hw] at h; exact absurd h (dfW_ne hw)
  | ok m =>
   rw [hw] at h
   unfold dfW at hw
   by_cases h0:dfHead d n = 0
   ·rw [if_neg (by simpa using h0)] at hw
    have hj:=(nodeW_zero (head_node h0)).1
    have hm:m ≤ 2000 ∧ (d.kind ≠ 1 → bodyOf (stW 39) d.body (n + 1) = .ok m):=by
     by_cases h1:d.kind = 1
     ·rw [if_pos h1] at hw; cases hw; exact ⟨hj,fun h => absurd h1 h⟩
     ·rw [if_neg h1] at hw; exact ⟨bodyOf_le (stW_le 39) hj hw,fun _ => hw⟩
    cases k with
    | zero => simp at hd; subst hd; exact ⟨n,hj,h0,fun h1 => ⟨m,hm.2 h1⟩⟩
    | succ k => exact defs_fit l (i + 1) m hm.1 h k d' (by simpa using hd)
   ·rw [if_pos h0] at hw; cases hw
theorem right_fit {l:List Df} (hw:(wrongL l).1 = 0):l.length ≤ 30 ∧ ∀ (k:Nat) (d:Df),l[k]? = some d → ∃ j,j + 1 ≤ 2000 ∧ dfHead d j = 0 ∧ (d.kind ≠ 1 → ∃ m,bodyOf (stW 39) d.body (j + 1) = .ok m):=by
 unfold wrongL at hw
 by_cases h:30 < l.length
 ·rw [if_pos h] at hw; cases hw
 ·rw [if_neg h] at hw; exact ⟨by omega,defs_fit l 0 0 (by omega) hw⟩
theorem right_name {l:List Df} (hw:(wrongL l).1 = 0) (k:Nat) (d:Df) (h:l[k]? = some d):d.name ≠ ⟨#[]⟩ ∧ d.name.size ≤ 12:=by
 obtain ⟨j,_,h0,_⟩:=(right_fit hw).2 k d h
 exact nm_ok (head_name h0).1
theorem fit_of {l:List Df} (hw:(wrongL l).1 = 0) {u:List Unit} (hh:each (head l) l 0 = .ok u):Fit l:=by
 have hf:=(right_fit hw).2
 refine ⟨fun i d hd => ?_,fun i d hd => ?_,fun i d hd h1 => ?_⟩
 ·obtain ⟨x,_,e⟩:=(each_at hh).2 i d hd
  exact e
 ·obtain ⟨j,_,h0,_⟩:=hf i d hd
  exact ⟨(nodeW_zero (head_node h0)).2.1,(nodeW_zero (head_node h0)).2.2.1⟩
 ·obtain ⟨j,hj,h0,hb⟩:=hf i d hd
  obtain ⟨m,hm⟩:=hb h1
  exact ⟨(head_name h0).2,j + 1,m,hj,hm⟩
def owners2 (l:List Df):Except (Int × Nat) (List Ow3):=match prog l with
 | some e => .error e
 | none => match each (head l) l 0 with
  | .error e => .error e
  | .ok _ => match each (bodyT l) l 0 with
   | .error e => .error e
   | .ok talks => ownersFrom l talks (List.range l.length)
theorem owners_eq (l:List Df):owners l = if (wrongL l).1 ≠ 0 then .error (wrongL l) else owners2 l:=rfl
end Sm
namespace Sm
theorem grown_d (w:World):w.grownBy w.drew none:=⟨rfl,rfl,rfl,Nat.le_refl _,fun _ _ _ => rfl⟩
theorem grown_some {a b:World} {O:Nat} (h:a.grownBy b none):a.grownBy b (some O):=⟨h.os,h.tape,h.output,h.size,fun k hk _ => h.block k hk (by simp)⟩
def Oc (l:List Sy.Df) (O:Nat) (w:World) (e:Ending) (w':World):Prop:=match owners2 l with
 | .error x => e = .panicked [fltE x.1 (x.2:Int)] ∧ w.grownBy w' none
 | .ok os => e = .returned (.tuple #[]) ∧ w.grownBy w' (some O) ∧ ∃ v,w'.heap[O]? = some (.cells #[v] 24 (0,0)) ∧ w'.ownsRow w.heap.size 37 3 v os.length (ows os)
theorem own1_any (B:Nat) (l:List Sy.Df) (a:Option Addr) (c P O:Nat) (w:World) (hD:Hid (DfsIn B w l a)) (hB:B ≤ w.heap.size) (hG:Hid (Gl B w)) (hw:Hid ((Sy.wrongL l).1 = 0)) (hP:Hid (w.heap[P]? = some (.cells #[.slice a l.length c] 22 (0,0)))) (hO:Hid (w.heap[O]? = some (.cells #[.slice none 0 0] 24 (0,0)))) :
  Calls Tryz.prog 14 #[.pointer (some ⟨P,0,none⟩),.pointer (some ⟨O,0,none⟩)] w fun e w' => Oc l O w e w':=by
 have hPc:w.cell? ⟨P,0,none⟩ = some (.slice a l.length c):=by simp [World.cell?,hP.out]
 have hl:=(right_fit hw.out).1
 obtain ⟨rp,hrp⟩:∃ r,r = prog l:=⟨_,rfl⟩
 have HRP:Hid (rp = prog l):=hrp
 clear hrp
 go_enter Tryz.func14,Tryz.ntmps14
 go_wp2_with fail
 refine (new_any B l a c w rp hD hB HRP).mono ?_
 rintro e w1 ⟨hg1,h1⟩
 have HG1:Hid (w.grownBy w1 none):=hg1
 cases rp with
 | some x =>
  subst h1
  have HE:Hid (Oc l O w (.panicked [fltE x.1 (x.2:Int)]) w1):=by unfold Hid Oc owners2; rw [← HRP.out]; exact ⟨rfl,hg1⟩
  clear hg1
  go_wp2
  exact ⟨rfl,HE.out⟩
 | none =>
  obtain ⟨rfl,hIn,hnd⟩:=h1
  obtain ⟨M,hM⟩:∃ M,M = w.heap.size + 1:=⟨_,rfl⟩
  rw [← hM] at hIn ⊢
  have HM:Hid (M = w.heap.size + 1):=hM
  have HIn:Hid (Ms.In w1 M (rowsTo l l.length)):=hIn
  have HR:Hid (∀ s,Ms.val (rowsTo l l.length) s = (numOf l s).map (fun i => .int .i64 (i:Int))):=rows_nums hnd
  have HD1:Hid (DfsIn B w1 l a):=hD.out.same (same_grown hg1 (by simp) hB)
  obtain ⟨rh,hrh⟩:∃ r,r = each (head l) l 0:=⟨_,rfl⟩
  have HRH:Hid (rh = each (head l) l 0):=hrh
  have HP1:Hid ((w1.alloc (pgB l.length a c M)).heap[w1.heap.size]? = some (pgB l.length a c M)):=heap_alloc_new _ _
  have HGa:Hid (w.grownBy (w1.alloc (pgB l.length a c M)) none):=grown_trans hg1 (grown_a _)
  obtain ⟨p0,p1,_,_⟩:=two_cell HP1.out
  clear hg1 hIn hnd hM hrh
  go_wp2_with fail
  refine (heads_any B l a c M (rowsTo l l.length) _ (ev rh) (hD.out.same (same_grown HGa.out (by simp) hB)) (Nat.le_trans hB HGa.out.size) (HIn.out.grow (grown_a _)) HR (by unfold Hid; rw [HRH.out])).mono ?_
  rintro e w2 ⟨hg2,he2⟩
  have HG2:Hid (w.grownBy w2 none):=grown_trans HGa.out hg2
  have HP2:Hid (w2.heap[w1.heap.size]? = some (pgB l.length a c M)):=(hg2.block _ (lt_of_block HP1.out) (by simp)).trans HP1.out
  have HI2:Hid (Ms.In w2 M (rowsTo l l.length)):=(HIn.out.grow (grown_a _)).grow hg2
  clear hg2 p0 p1
  cases rh with
  | error x =>
   have HE:Hid (Oc l O w (.panicked [fltE x.1 (x.2:Int)]) w2):=by unfold Hid Oc owners2; rw [← HRP.out]; dsimp only; rw [← HRH.out]; exact ⟨rfl,HG2.out⟩
   have he3:e = .panicked [fltE x.1 (x.2:Int)]:=he2
   clear he2
   subst he3
   go_wp2
   exact ⟨rfl,HE.out⟩
  | ok u =>
   have he3:e = .returned (.tuple #[]):=he2
   clear he2
   subst he3
   have HF:Hid (Fit l):=fit_of hw.out HRH.out.symm
   obtain ⟨rb,hrb⟩:∃ r,r = each (bodyT l) l 0:=⟨_,rfl⟩
   have HRB:Hid (rb = each (bodyT l) l 0):=hrb
   obtain ⟨p0,p1,_,_⟩:=two_cell HP2.out
   clear hrb
   go_wp2_with fail
   refine wp_region_held_drew (S:=fun w' => w'.cell? ⟨w1.heap.size,0,none⟩ = some (.slice a l.length c) ∧ w'.cell? ⟨w1.heap.size,1,none⟩ = some (.map (some M))) (by kernel_rfl) ⟨p0,p1⟩ (fun hHeld => ?_)
   refine tk 0 (v:=?_) rfl ?_ (by assumption) ?_
   rotate_left
   ·intro w hSw
    (try dsimp only at hSw)
    go_simp
    (try with_reducible rfl)
   (try go_frame)
   refine tk 1 (v:=?_) rfl ?_ (by assumption) ?_
   rotate_left
   ·intro w hSw
    (try dsimp only at hSw)
    go_simp
    (try with_reducible rfl)
   (try go_frame)
   refine wpAnyH_ready (rs:=[2]) (by kernel_rfl) (by simp) ?_
   refine AllReadyH.cons (o:=_) rfl (fun K' hK => ?_) AllReadyH.nil
   go_simp
   refine (bodies_any B l a c M (rowsTo l l.length) _ rb (hD.out.same (same_grown (grown_trans HG2.out (grown_d _)) (by simp) hB)) (Nat.le_trans hB (grown_trans HG2.out (grown_d _)).size) (HI2.out.grow (grown_d _)) (by have:=HM.out; omega) HR (gl_same hG.out (same_grown (grown_trans HG2.out (grown_d _)) (by simp) hB)) HF (by omega) HRB).mono ?_
   rintro e w3 ⟨hg3',he3⟩
   have hg3:w2.grownBy w3 none:=grown_trans (grown_d w2) hg3'
   have HG3:Hid (w.grownBy w3 none):=grown_trans HG2.out hg3
   have hP3:=(hg3.block _ (lt_of_block HP2.out) (by simp)).trans HP2.out
   clear hg3'
   cases rb with
   | error x =>
    have HE:Hid (Oc l O w (.panicked [fltE x.1 (x.2:Int)]) w3):=by unfold Hid Oc owners2; rw [← HRP.out]; dsimp only; rw [← HRH.out]; dsimp only; rw [← HRB.out]; exact ⟨rfl,HG3.out⟩
    have he4:e = .panicked [fltE x.1 (x.2:Int)]:=he3
    clear he3
    subst he4
    exact ⟨rfl,HE.out⟩
   | ok ts =>
    obtain ⟨Tb,cs,rfl,hTb,hTa⟩:=he3
    have HTa:Hid (TaAt B w3 Tb l.length cs (fun i => tkAt ts i)):=hTa
    obtain ⟨hts,htl⟩:=talks_ok HF.out HRB.out.symm
    have HTs:Hid (ts.length = l.length):=hts
    have HTl:Hid (∀ n,n < l.length → Tl l.length (tkAt ts n)):=htl
    obtain ⟨ro,hro⟩:∃ r,r = ownersFrom l ts (List.range l.length):=⟨_,rfl⟩
    have HRO:Hid (ro = ownersFrom l ts (List.range l.length)):=hro
    clear hTa hts htl hro
    refine hK.out _ _ ⟨by simp [World.cell?,hP3],by simp [World.cell?,hP3]⟩ (fun hHeld => ?_)
    clear hK
    refine wpAnyH_ready (rs:=[3]) (by kernel_rfl) (by simp) ?_
    refine AllReadyH.cons (o:=_) rfl (fun K' hK => ?_) AllReadyH.nil
    go_simp
    refine (owners_any B l a c M Tb cs ts w3 ro (hD.out.same (same_grown HG3.out (by simp) hB)) (Nat.le_trans hB HG3.out.size) HTa HTs HTl (fun k d h => right_name hw.out k d h) (by omega) HRO).mono ?_
    rintro e w4 ⟨hg4,he4⟩
    have HG4:Hid (w.grownBy w4 none):=grown_trans HG3.out hg4
    cases ro with
    | error x =>
     have HE:Hid (Oc l O w (.panicked [fltE x.1 (x.2:Int)]) w4):=by unfold Hid Oc owners2; rw [← HRP.out]; dsimp only; rw [← HRH.out]; dsimp only; rw [← HRB.out]; dsimp only; rw [← HRO.out]; exact ⟨rfl,HG4.out⟩
     have he5:e = .panicked [fltE x.1 (x.2:Int)]:=he4
     clear he4
     subst he5
     exact ⟨rfl,HE.out⟩
    | ok os =>
     obtain ⟨v,rfl,hown⟩:=he4
     have hP4:=(hg4.block _ (lt_of_block hP3) (by simp)).trans hP3
     have hO4:=(HG4.out.block _ (lt_of_block hO.out) (by simp)).trans hO.out
     obtain ⟨oa,oc,rfl⟩:=own_form hown
     have HOw:Hid (w4.ownsRow w.heap.size 37 3 (.slice oa os.length oc) os.length (ows os)):=own_base hown HG3.out.size
     have c0:w4.cell? ⟨O,0,none⟩ = some (.slice none 0 0):=by simp [World.cell?,hO4]
     have y0:w4.frozen? ⟨O,0,none⟩ = false:=by simp [World.frozen?,hO4]
     have HOB:Hid (w4.heap[O]? = some (.cells #[.slice none 0 0] 24 (0,0))):=hO4
     have hs4:w4.cell? ⟨w1.heap.size,0,none⟩ = some (.slice a l.length c) ∧ w4.cell? ⟨w1.heap.size,1,none⟩ = some (.map (some M)):=⟨by simp [World.cell?,hP4],by simp [World.cell?,hP4]⟩
     clear hown hP4 hO4 hP3 hg4 hg3
     refine hK.out _ _ hs4 (fun hHeld => ?_)
     clear hK
     have hOw:=lt_of_block hO.out
     have hne:w1.heap.size ≠ O:=by have:=HG1.out.size; omega
     have hk5:=Below.heap_setCell w4 ⟨O,0,none⟩ (.slice oa os.length oc) w1.heap.size hne
     have hs5:(w4.setCell ⟨O,0,none⟩ (.slice oa os.length oc)).cell? ⟨w1.heap.size,0,none⟩ = some (.slice a l.length c) ∧ (w4.setCell ⟨O,0,none⟩ (.slice oa os.length oc)).cell? ⟨w1.heap.size,1,none⟩ = some (.map (some M)):=⟨(World.cell?_of_block (a:=⟨w1.heap.size,0,none⟩) hk5).trans hs4.1,(World.cell?_of_block (a:=⟨w1.heap.size,1,none⟩) hk5).trans hs4.2⟩
     have HE:Hid (Oc l O w (.returned (.tuple #[])) (w4.setCell ⟨O,0,none⟩ (.slice oa os.length oc))):=by
      unfold Hid Oc owners2
      rw [← HRP.out]; dsimp only; rw [← HRH.out]; dsimp only; rw [← HRB.out]; dsimp only; rw [← HRO.out]
      refine ⟨rfl,grown_trans (grown_some HG4.out) (grown_at _ _ _ _),_,?_,own_keep HOw.out (fun k hk => Below.heap_setCell w4 ⟨O,0,none⟩ _ k ?_)⟩
      ·simp only [World.setCell,Array.getElem?_modify,if_true,HOB.out,Option.map_some]
       rfl
      ·have:=(own_lt HOw.out k hk).1
       show k ≠ O
       omega
     clear hne hk5 hOw
     refine wpAnyH_ready (rs:=[4]) (by kernel_rfl) (by simp) ?_
     refine AllReadyH.cons (o:=_) rfl (fun K' hK => ?_) AllReadyH.nil
     go_simp
     refine hK.out _ _ hs5 (fun hHeld => ?_)
     clear hK hs5 hs4
     refine wpAnyH_done (by kernel_rfl) ?_ _
     go_wp2
     go_end0
     exact HE.out
end Sm
end Go.Proofs.YtpnljpdpobbiiaaGreatDoor
