/- The walk of Owners' closure. -/
import Derived.Test.YtbioaoangfiijaaGreatDoorM28
set_option maxRecDepth 100000
set_option maxHeartbeats 2000000
namespace Go.Proofs.YtbioaoangfiijaaGreatDoor
open Go.RowKit
namespace Sm
theorem grown_d (w:World):w.grownBy w.drew none:=⟨rfl,rfl,rfl,Nat.le_refl _,fun _ _ _ => rfl⟩
theorem grown_some {a b:World} {O:Nat} (h:a.grownBy b none):a.grownBy b (some O):=⟨h.os,h.tape,h.output,h.size,fun k hk _ => h.block k hk (by simp)⟩
def Oc (l:List Sy.Df) (O:Nat) (w:World) (e:Ending) (w':World):Prop:=match owners2 l with
 | .error x => e = .panicked [fltE x.1 (x.2:Int)] ∧ w.grownBy w' none
 | .ok os => e = .returned (.tuple #[]) ∧ w.grownBy w' (some O) ∧ ∃ v,w'.heap[O]? = some (.cells #[v] 50 (0,0)) ∧ w'.ownsRow w.heap.size 54 3 v os.length (ows os)
theorem own1_any (B:Nat) (l:List Sy.Df) (a:Option Addr) (c P O:Nat) (w:World) (hD:Hid (DfsIn B w l a)) (hB:B ≤ w.heap.size) (hG:Hid (Gl B w)) (hw:Hid ((Sy.wrongL l).1 = 0)) (hP:Hid (w.heap[P]? = some (.cells #[.slice a l.length c] 22 (0,0)))) (hO:Hid (w.heap[O]? = some (.cells #[.slice none 0 0] 50 (0,0)))) :
  Calls Tryz.prog 21 #[.pointer (some ⟨P,0,none⟩),.pointer (some ⟨O,0,none⟩)] w fun e w' => Oc l O w e w':=by
 have hPc:w.cell? ⟨P,0,none⟩ = some (.slice a l.length c):=by simp [World.cell?,hP.out]
 have hl:=(right_fit hw.out).1
 obtain ⟨rp,hrp⟩:∃ r,r = prog l:=⟨_,rfl⟩
 have HRP:Hid (rp = prog l):=hrp
 clear hrp
 go_enter Tryz.func21,Tryz.ntmps21
 go_wp2_with fail
 refine (new_any B l a c w rp hD hB HRP).mono ?_
 rintro e w1 ⟨hg1,h1⟩
 have HG1:Hid (w.grownBy w1 none):=hg1
 cases rp with
 | some x =>
  subst h1
  have HE:Hid (Oc l O w (.panicked [fltE x.1 (x.2:Int)]) w1):=by unfold Hid Oc owners2; rw [← HRP.out]; exact ⟨rfl,hg1⟩
  clear hg1
  go_wp2
  exact ⟨rfl,HE.out⟩
 | none =>
  obtain ⟨rfl,hIn,hnd⟩:=h1
  obtain ⟨M,hM⟩:∃ M,M = w.heap.size + 1:=⟨_,rfl⟩
  rw [← hM] at hIn ⊢
  have HM:Hid (M = w.heap.size + 1):=hM
  have HIn:Hid (Ms.In w1 M (rowsTo l l.length)):=hIn
  have HR:Hid (∀ s,Ms.val (rowsTo l l.length) s = (numOf l s).map (fun i => .int .i64 (i:Int))):=rows_nums hnd
  have HD1:Hid (DfsIn B w1 l a):=hD.out.same (same_grown hg1 (by simp) hB)
  obtain ⟨rh,hrh⟩:∃ r,r = each (head l) l 0:=⟨_,rfl⟩
  have HRH:Hid (rh = each (head l) l 0):=hrh
  have HP1:Hid ((w1.alloc (pgB l.length a c M)).heap[w1.heap.size]? = some (pgB l.length a c M)):=heap_alloc_new _ _
  have HGa:Hid (w.grownBy (w1.alloc (pgB l.length a c M)) none):=grown_trans hg1 (grown_a _)
  obtain ⟨p0,p1,_,_⟩:=two_cell HP1.out
  clear hg1 hIn hnd hM hrh
  go_wp2_with fail
  refine (heads_any B l a c M (rowsTo l l.length) _ (ev rh) (hD.out.same (same_grown HGa.out (by simp) hB)) (Nat.le_trans hB HGa.out.size) (HIn.out.grow (grown_a _)) HR (by unfold Hid; rw [HRH.out])).mono ?_
  rintro e w2 ⟨hg2,he2⟩
  have HG2:Hid (w.grownBy w2 none):=grown_trans HGa.out hg2
  have HP2:Hid (w2.heap[w1.heap.size]? = some (pgB l.length a c M)):=(hg2.block _ (lt_of_block HP1.out) (by simp)).trans HP1.out
  have HI2:Hid (Ms.In w2 M (rowsTo l l.length)):=(HIn.out.grow (grown_a _)).grow hg2
  clear hg2 p0 p1
  cases rh with
  | error x =>
   have HE:Hid (Oc l O w (.panicked [fltE x.1 (x.2:Int)]) w2):=by unfold Hid Oc owners2; rw [← HRP.out]; dsimp only; rw [← HRH.out]; exact ⟨rfl,HG2.out⟩
   have he3:e = .panicked [fltE x.1 (x.2:Int)]:=he2
   clear he2
   subst he3
   go_wp2
   exact ⟨rfl,HE.out⟩
  | ok u =>
   have he3:e = .returned (.tuple #[]):=he2
   clear he2
   subst he3
   have HF:Hid (Fit l):=fit_of hw.out HRH.out.symm
   obtain ⟨rb,hrb⟩:∃ r,r = each (bodyT l) l 0:=⟨_,rfl⟩
   have HRB:Hid (rb = each (bodyT l) l 0):=hrb
   obtain ⟨p0,p1,_,_⟩:=two_cell HP2.out
   clear hrb
   go_wp2_with fail
   refine wp_region_held_drew (S:=fun w' => w'.cell? ⟨w1.heap.size,0,none⟩ = some (.slice a l.length c) ∧ w'.cell? ⟨w1.heap.size,1,none⟩ = some (.map (some M))) (by kernel_rfl) ⟨p0,p1⟩ (fun hHeld => ?_)
   refine tk 0 (v:=?_) rfl ?_ (by assumption) ?_
   rotate_left
   ·intro w hSw
    (try dsimp only at hSw)
    go_simp
    (try with_reducible rfl)
   (try go_frame)
   refine tk 1 (v:=?_) rfl ?_ (by assumption) ?_
   rotate_left
   ·intro w hSw
    (try dsimp only at hSw)
    go_simp
    (try with_reducible rfl)
   (try go_frame)
   refine wpAnyH_ready (rs:=[2]) (by kernel_rfl) (by simp) ?_
   refine AllReadyH.cons (o:=_) rfl (fun K' hK => ?_) AllReadyH.nil
   go_simp
   refine (bodies_any B l a c M (rowsTo l l.length) _ rb (hD.out.same (same_grown (grown_trans HG2.out (grown_d _)) (by simp) hB)) (Nat.le_trans hB (grown_trans HG2.out (grown_d _)).size) (HI2.out.grow (grown_d _)) (by have:=HM.out; omega) HR (gl_same hG.out (same_grown (grown_trans HG2.out (grown_d _)) (by simp) hB)) HF (by omega) HRB).mono ?_
   rintro e w3 ⟨hg3',he3⟩
   have hg3:w2.grownBy w3 none:=grown_trans (grown_d w2) hg3'
   have HG3:Hid (w.grownBy w3 none):=grown_trans HG2.out hg3
   have hP3:=(hg3.block _ (lt_of_block HP2.out) (by simp)).trans HP2.out
   clear hg3'
   cases rb with
   | error x =>
    have HE:Hid (Oc l O w (.panicked [fltE x.1 (x.2:Int)]) w3):=by unfold Hid Oc owners2; rw [← HRP.out]; dsimp only; rw [← HRH.out]; dsimp only; rw [← HRB.out]; exact ⟨rfl,HG3.out⟩
    have he4:e = .panicked [fltE x.1 (x.2:Int)]:=he3
    clear he3
    subst he4
    exact ⟨rfl,HE.out⟩
   | ok ts =>
    obtain ⟨Tb,cs,rfl,hTb,hTa⟩:=he3
    have HTa:Hid (TaAt B w3 Tb l.length cs (fun i => tkAt ts i)):=hTa
    obtain ⟨hts,htl⟩:=talks_ok HF.out HRB.out.symm
    have HTs:Hid (ts.length = l.length):=hts
    have HTl:Hid (∀ n,n < l.length → Tl l.length (tkAt ts n)):=htl
    obtain ⟨ro,hro⟩:∃ r,r = ownersFrom l ts (List.range l.length):=⟨_,rfl⟩
    have HRO:Hid (ro = ownersFrom l ts (List.range l.length)):=hro
    clear hTa hts htl hro
    refine hK.out _ _ ⟨by simp [World.cell?,hP3],by simp [World.cell?,hP3]⟩ (fun hHeld => ?_)
    clear hK
    refine wpAnyH_ready (rs:=[3]) (by kernel_rfl) (by simp) ?_
    refine AllReadyH.cons (o:=_) rfl (fun K' hK => ?_) AllReadyH.nil
    go_simp
    refine (owners_any B l a c M Tb cs ts w3 ro (hD.out.same (same_grown HG3.out (by simp) hB)) (Nat.le_trans hB HG3.out.size) HTa HTs HTl (fun k d h => right_name hw.out k d h) (by omega) HRO).mono ?_
    rintro e w4 ⟨hg4,he4⟩
    have HG4:Hid (w.grownBy w4 none):=grown_trans HG3.out hg4
    cases ro with
    | error x =>
     have HE:Hid (Oc l O w (.panicked [fltE x.1 (x.2:Int)]) w4):=by unfold Hid Oc owners2; rw [← HRP.out]; dsimp only; rw [← HRH.out]; dsimp only; rw [← HRB.out]; dsimp only; rw [← HRO.out]; exact ⟨rfl,HG4.out⟩
     have he5:e = .panicked [fltE x.1 (x.2:Int)]:=he4
     clear he4
     subst he5
     exact ⟨rfl,HE.out⟩
    | ok os =>
     obtain ⟨v,rfl,hown⟩:=he4
     have hP4:=(hg4.block _ (lt_of_block hP3) (by simp)).trans hP3
     have hO4:=(HG4.out.block _ (lt_of_block hO.out) (by simp)).trans hO.out
     obtain ⟨oa,oc,rfl⟩:=own_form hown
     have HOw:Hid (w4.ownsRow w.heap.size 54 3 (.slice oa os.length oc) os.length (ows os)):=own_base hown HG3.out.size
     have c0:w4.cell? ⟨O,0,none⟩ = some (.slice none 0 0):=by simp [World.cell?,hO4]
     have y0:w4.frozen? ⟨O,0,none⟩ = false:=by simp [World.frozen?,hO4]
     have HOB:Hid (w4.heap[O]? = some (.cells #[.slice none 0 0] 50 (0,0))):=hO4
     have hs4:w4.cell? ⟨w1.heap.size,0,none⟩ = some (.slice a l.length c) ∧ w4.cell? ⟨w1.heap.size,1,none⟩ = some (.map (some M)):=⟨by simp [World.cell?,hP4],by simp [World.cell?,hP4]⟩
     clear hown hP4 hO4 hP3 hg4 hg3
     refine hK.out _ _ hs4 (fun hHeld => ?_)
     clear hK
     have hOw:=lt_of_block hO.out
     have hne:w1.heap.size ≠ O:=by have:=HG1.out.size; omega
     have hk5:=Below.heap_setCell w4 ⟨O,0,none⟩ (.slice oa os.length oc) w1.heap.size hne
     have hs5:(w4.setCell ⟨O,0,none⟩ (.slice oa os.length oc)).cell? ⟨w1.heap.size,0,none⟩ = some (.slice a l.length c) ∧ (w4.setCell ⟨O,0,none⟩ (.slice oa os.length oc)).cell? ⟨w1.heap.size,1,none⟩ = some (.map (some M)):=⟨(World.cell?_of_block (a:=⟨w1.heap.size,0,none⟩) hk5).trans hs4.1,(World.cell?_of_block (a:=⟨w1.heap.size,1,none⟩) hk5).trans hs4.2⟩
     have HE:Hid (Oc l O w (.returned (.tuple #[])) (w4.setCell ⟨O,0,none⟩ (.slice oa os.length oc))):=by
      unfold Hid Oc owners2
      rw [← HRP.out]; dsimp only; rw [← HRH.out]; dsimp only; rw [← HRB.out]; dsimp only; rw [← HRO.out]
      refine ⟨rfl,grown_trans (grown_some HG4.out) (grown_at _ _ _ _),_,?_,own_keep HOw.out (fun k hk => Below.heap_setCell w4 ⟨O,0,none⟩ _ k ?_)⟩
      ·simp only [World.setCell,Array.getElem?_modify,if_true,HOB.out,Option.map_some]
       rfl
      ·have:=(own_lt HOw.out k hk).1
       show k ≠ O
       omega
     clear hne hk5 hOw
     refine wpAnyH_ready (rs:=[4]) (by kernel_rfl) (by simp) ?_
     refine AllReadyH.cons (o:=_) rfl (fun K' hK => ?_) AllReadyH.nil
     go_simp
     refine hK.out _ _ hs5 (fun hHeld => ?_)
     clear hK hs5 hs4
     refine wpAnyH_done (by kernel_rfl) ?_ _
     go_wp2
     go_end0
     exact HE.out
end Sm
namespace Sm
open Sy
def Ne {α:Type} (r:Except Int α):Prop:=∀ e,r = .error e → e ≠ 0
theorem Ne.ok {α:Type} (x:α):Ne (.ok x:Except Int α):=fun e h => by cases h
theorem Ne.err {α:Type} {n:Int} (h:n ≠ 0):Ne (.error n:Except Int α):=fun e he => by cases he; exact h
theorem Ne.next {α β:Type} {r:Except Int α} {f:α → Except Int β} (h:Ne r) (k:∀ x,Ne (f x)):Ne (andThen r f):=by
 cases r with
 | error e => exact fun e' he => h e' (by cases he; rfl)
 | ok x => exact k x
theorem Ne.ite {α:Type} {p:Prop} [Decidable p] {a b:Except Int α} (h:Ne a) (k:Ne b):Ne (if p then a else b):=by split <;> assumption
theorem want_ne (l:List Df) (k:Int) (s:ByteArray):Ne (want l k s):=by
 unfold want
 split
 ·exact .err (by decide)
 ·exact .ite (.ok _) (.err (by decide))
theorem known_ne (v:Vars) (s:ByteArray):Ne (known v s):=by
 unfold known
 split
 ·exact .err (by decide)
 ·exact .ok _
theorem fits_ne (b:Bool):Ne (fits b):=.ite (.ok _) (.err (by decide))
theorem plain_ne (t:Ty):Ne (plain t):=.ite (.err (by decide)) (.ok _)
def ExNe (ex:Ex → Tk → Except Int (Ty × Tk)):Prop:=∀ x t,Ne (ex x t)
theorem must_ne {ex:Ex → Tk → Except Int (Ty × Tk)} (h:ExNe ex) (y:Ty):∀ (ks:List Ex) (t:Tk),Ne (must ex y ks t)
 | [],_ => .ok _
 | x :: ks,t => .next (h x t) fun p => .ite (must_ne h y ks p.2) (.err (by decide))
theorem args_ne {ex:Ex → Tk → Except Int (Ty × Tk)} (h:ExNe ex):∀ (ps:List Pm) (ks:List Ex) (t:Tk),Ne (args ex ps ks t)
 | [],_,_ => .ok _
 | _ :: ps,_,_ => .next (must_ne h _ _ _) fun t => args_ne h ps _ t
theorem call_ne {l:List Df} {ex:Ex → Tk → Except Int (Ty × Tk)} (h:ExNe ex) (k:Int) (x:Ex) (t:Tk):Ne (call l ex k x t) :=
 .next (want_ne _ _ _) fun _ => .ite (.err (by decide)) (.next (args_ne h _ _ _) fun _ => .ok _)
theorem started_ne {l:List Df} {ex:Ex → Tk → Except Int (Ty × Tk)} (h:ExNe ex) (x:Ex) (t:Tk):Ne (started l ex x t) :=
 .next (h x t) fun _ => .ite (.err (by decide)) (.next (want_ne _ _ _) fun _ => .ok _)
theorem spoken_ne {l:List Df} {me:Df} {ex:Ex → Tk → Except Int (Ty × Tk)} (h:ExNe ex) (x:Ex) (t:Tk):Ne (spoken l me ex x t) :=
 .ite (.next (call_ne h _ _ _) fun _ => .ok _) (.ite (.next (call_ne h _ _ _) fun _ => .ok _) (.ite (.next (want_ne _ _ _) fun _ => .ok _)
  (.ite (.next (fits_ne _) fun _ => .next (must_ne h _ _ _) fun _ => .ok _) (.next (started_ne h _ _) fun _ => .next (must_ne h _ _ _) fun _ => .ok _))))
theorem expr_ne (l:List Df) (me:Df) (v:Vars):∀ d,ExNe (expr l me v d)
 | 0 => fun x t => .err (by decide)
 | d + 1 => fun x t => by
  have h:=expr_ne l me v d
  rw [expr]
  exact .ite (.ok _) (.ite (.ok _) (.ite (.next (known_ne _ _) fun _ => .ok _) (.ite (.next (must_ne h _ _ _) fun _ => .ok _) (.ite (.next (must_ne h _ _ _) fun _ => .ok _) (.ite (.next (must_ne h _ _ _) fun _ => .ok _)
   (.ite (.next (h _ _) fun _ => .next (h _ _) fun _ => .next (plain_ne _) fun _ => .ite (.ok _) (.err (by decide))) (.ite (.next (started_ne h _ _) fun _ => .ok _) (spoken_ne h _ _))))))))
def StNe (st:St → Vars → Tk → Except Int (Vars × Tk)):Prop:=∀ s v t,Ne (st s v t)
theorem block_ne {st:St → Vars → Tk → Except Int (Vars × Tk)} (h:StNe st):∀ (b:List St) (v:Vars) (t:Tk),Ne (block st b v t)
 | [],_,_ => .ok _
 | s :: b,v,t => .next (h s v t) fun p => block_ne h b p.1 p.2
theorem inner_ne {st:St → Vars → Tk → Except Int (Vars × Tk)} (h:StNe st) (b:List St) (v:Vars) (t:Tk):Ne (inner st b v t):=.next (block_ne h b v t) fun _ => .ok _
theorem stat_ne (l:List Df) (me:Df):∀ d,StNe (stat l me d)
 | 0 => fun s v t => .err (by decide)
 | d + 1 => fun s v t => by
  have h:=stat_ne l me d
  have hx:=expr_ne l me v d
  rw [stat]
  exact .ite (.next (hx _ _) fun _ => .ite (.err (by decide)) (.ok _)) (.ite (.next (known_ne _ _) fun _ => .next (must_ne hx _ _ _) fun _ => .ok _)
   (.ite (.next (must_ne hx _ _ _) fun _ => .next (inner_ne h _ _ _) fun _ => .next (inner_ne h _ _ _) fun _ => .ok _) (.ite (.next (must_ne hx _ _ _) fun _ => .next (inner_ne h _ _ _) fun _ => .ok _)
   (.ite (.next (fits_ne _) fun _ => .next (must_ne hx _ _ _) fun _ => .ok _) (.ite (.next (fits_ne _) fun _ => .ok _) (.ite (.next (want_ne _ _ _) fun _ => .next (must_ne hx _ _ _) fun _ => .ok _)
   (.ite (.next (hx _ _) fun _ => .next (plain_ne _) fun _ => .ok _) (.next (hx _ _) fun _ => .ok _))))))))
theorem bodyT_ne (l:List Df) (me:Df):Ne (bodyT l me):=.ite (.ok _) (inner_ne (stat_ne l me 39) _ _ _)
theorem params_ne (l:List Df):∀ (ps:List Pm) (seen:List ByteArray),Ne (params l ps seen)
 | [],_ => .ok _
 | p :: ps,seen => .ite (.err (by decide)) (.ite (.next (want_ne _ _ _) fun _ => params_ne l ps _) (params_ne l ps _))
theorem head_ne (l:List Df) (d:Df):Ne (head l d) :=
 .ite (plain_ne _) (.ite (.next (params_ne _ _ _) fun _ => plain_ne _) (.ite (.next (params_ne _ _ _) fun _ => .next (plain_ne _) fun _ => plain_ne _) (.ok _)))
def Ne2 {α:Type} (r:Except (Int × Nat) α):Prop:=∀ e,r = .error e → e.1 ≠ 0
theorem each_ne {α:Type} {f:Df → Except Int α} (h:∀ d,Ne (f d)):∀ (l:List Df) (i:Nat),Ne2 (each f l i)
 | [],i => fun e he => by cases he
 | d :: l,i => fun e he => by
  rw [each] at he
  cases hf:f d with
  | error x => rw [hf] at he; cases he; exact h d x hf
  | ok x =>
   rw [hf] at he
   dsimp only at he
   cases hl:each f l (i + 1) with
   | error y => rw [hl] at he; cases he; exact each_ne h l (i + 1) _ hl
   | ok xs => rw [hl] at he; cases he
theorem only_ne (l:List Df) (sp:Nat → Bool):Ne (only l sp):=by
 unfold only
 split
 ·exact .ok _
 ·exact .ok _
 ·exact .err (by decide)
theorem ownersFrom_ne (l:List Df) (ts:List Tk):∀ is,Ne2 (ownersFrom l ts is)
 | [] => fun e he => by cases he
 | i :: is => fun e he => by
  have ih:=ownersFrom_ne l ts is
  rw [ownersFrom] at he
  split at he
  ·cases ho:owner l ts i with
   | error x =>
    rw [ho] at he; cases he
    exact (Ne.next (only_ne _ _) fun _ => .next (only_ne _ _) fun _ => .ok _:Ne (owner l ts i)) x ho
   | ok o =>
    rw [ho] at he
    dsimp only at he
    cases hl:ownersFrom l ts is with
    | error y => rw [hl] at he; cases he; exact ih _ hl
    | ok xs => rw [hl] at he; cases he
  ·exact ih e he
theorem names_ne:∀ (l:List Df) (i:Nat) (seen:List ByteArray) (e:Int × Nat),names l i seen = some e → e.1 ≠ 0
 | [],_,_,e,h => by cases h
 | d :: l,i,seen,e,h => by
  rw [names] at h
  split at h
  ·cases h; show (7:Int) ≠ 0; decide
  ·exact names_ne l _ _ e h
theorem prog_ne (l:List Df) (e:Int × Nat) (h:prog l = some e):e.1 ≠ 0:=by
 unfold prog at h
 split at h
 ·rename_i e' hn; cases h; exact names_ne l 0 [] e hn
 ·split at h
  ·cases h
  ·cases h; show (6:Int) ≠ 0; decide
theorem owners2_ne (l:List Df):Ne2 (owners2 l):=fun e he => by
 unfold owners2 at he
 split at he
 ·rename_i x hp; cases he; exact prog_ne l _ hp
 ·split at he
  ·rename_i x hh; cases he; exact each_ne (head_ne l) l 0 _ hh
  ·split at he
   ·rename_i x hb; cases he; exact each_ne (bodyT_ne l) l 0 _ hb
   ·exact ownersFrom_ne l _ _ e he
end Sm
end Go.Proofs.YtbioaoangfiijaaGreatDoor
