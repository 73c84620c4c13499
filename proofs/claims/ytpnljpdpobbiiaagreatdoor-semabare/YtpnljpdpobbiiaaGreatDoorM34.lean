/- Plainly: a bare program is as right as it. -/
import Derived.Test.YtpnljpdpobbiiaaGreatDoorM33
import Derived.Test.YtpnljpdpobbiiaaGreatDoorM31
set_option maxRecDepth 100000
set_option maxHeartbeats 4000000
namespace Go.Proofs.YtpnljpdpobbiiaaGreatDoor
open Go.RowKit
namespace Sm
open Sy
section
variable {D:Nat} {l:List Df}
theorem names_bare:∀ (k:List Df) (i:Nat) (seen:List ByteArray),names (k.map (Sy.dfZ D)) i seen = names k i seen
 | [],_,_ => rfl
 | d :: k,i,seen => by
  rw [List.map_cons,names,names]
  show (if seen.any (fun s => decide (s = d.name)) = true then _ else names _ _ (seen ++ [d.name])) = _
  rw [names_bare k]
theorem prog_bare:prog (l.map (Sy.dfZ D)) = prog l:=by
 unfold prog
 rw [names_bare,List.any_map,List.length_map]
 rfl
theorem each_bare {α:Type} {f g:Df → Except Int α}:∀ (k:List Df) (i:Nat),(∀ d ∈ k,g (Sy.dfZ D d) = f d) → each g (k.map (Sy.dfZ D)) i = each f k i
 | [],_,_ => rfl
 | d :: k,i,h => by
  rw [List.map_cons,each,each,h d (by simp),each_bare k (i + 1) (fun d hd => h d (by simp [hd]))]
theorem bodyT_bare (hD:39 ≤ D) {me:Df} (hk:1 ≤ me.kind ∧ me.kind ≤ 4):bodyT (l.map (Sy.dfZ D)) (Sy.dfZ D me) = bodyT l me:=by
 unfold bodyT
 show (if me.kind = 1 then _ else _) = _
 by_cases h1:me.kind = 1
 ·rw [if_pos h1,if_pos h1]
 ·rw [if_neg h1,if_neg h1]
  have e1:(Sy.dfZ D me).body = me.body.map (Sy.stB D):=by show (if me.kind = 1 then [] else _) = _; rw [if_neg h1]
  have e2:(if (Sy.dfZ D me).kind = 4 then [] else (Sy.dfZ D me).params.map (fun p => (p.name,p.ty))) = vB (if me.kind = 4 then [] else me.params.map (fun p => (p.name,p.ty))):=by
   show (if me.kind = 4 then [] else _) = _
   by_cases h4:me.kind = 4
   ·rw [if_pos h4,if_pos h4]; rfl
   ·rw [if_neg h4,if_neg h4,z_params (by omega)]
    simp [vB,Sy.pmB]
  rw [e1,e2]
  exact inner_bare (stat_bare me 39 D hD) _ _ _
theorem params_bare:∀ (ps:List Pm) (seen:List ByteArray),params (l.map (Sy.dfZ D)) (ps.map Sy.pmB) seen = params l ps seen
 | [],_ => rfl
 | p :: ps,seen => by
  rw [List.map_cons,params,params]
  show (if seen.any (fun s => decide (s = p.name)) = true then _ else if p.ty.kind = 3 then andThen (want _ 3 (Sy.tyB p.ty).gen) fun _ => params _ _ (seen ++ [p.name]) else params _ _ (seen ++ [p.name])) = _
  rw [want_bare,params_bare ps]
  by_cases h3:p.ty.kind = 3
  ·rw [if_pos h3,if_pos h3,tyB_gen h3]
  ·rw [if_neg h3,if_neg h3]
theorem head_bare (d:Df):head (l.map (Sy.dfZ D)) (Sy.dfZ D d) = head l d:=by
 unfold head
 show (if d.kind = 1 then plain (Sy.dfZ D d).ty else if d.kind = 2 then _ else if d.kind = 3 then _ else _) = _
 by_cases h1:d.kind = 1
 ·rw [if_pos h1,if_pos h1,z_ty (by omega)]; rfl
 ·rw [if_neg h1,if_neg h1]
  by_cases h2:d.kind = 2
  ·rw [if_pos h2,if_pos h2,z_ty (by omega),z_params (.inl h2),params_bare]; rfl
  ·rw [if_neg h2,if_neg h2]
   by_cases h3:d.kind = 3
   ·rw [if_pos h3,if_pos h3,z_ty (by omega),z_takes h3,z_params (.inr h3),params_bare]; rfl
   ·rw [if_neg h3,if_neg h3]
theorem only_bare (f:Nat → Bool):only (l.map (Sy.dfZ D)) f = only l f:=by
 unfold only
 rw [List.length_map]
 cases (List.range l.length).filter f with
 | nil => rfl
 | cons i r =>
  cases r with
  | nil => show Except.ok (defAt (l.map (Sy.dfZ D)) i).name = _; rw [def_bare]; rfl
  | cons j r => rfl
theorem tasks_bare (talks:List Tk) (i:Nat):tasksT (l.map (Sy.dfZ D)) talks i = tasksT l talks i:=by
 unfold tasksT
 rw [def_bare]
 rfl
theorem owner_bare (talks:List Tk) (i:Nat):owner (l.map (Sy.dfZ D)) talks i = owner l talks i:=by
 unfold owner
 simp only [only_bare,tasks_bare,def_bare]
 rfl
theorem from_bare (talks:List Tk):∀ is:List Nat,ownersFrom (l.map (Sy.dfZ D)) talks is = ownersFrom l talks is
 | [] => rfl
 | i :: is => by
  rw [ownersFrom,ownersFrom,owner_bare,from_bare talks is,def_bare]
  rfl
theorem kind_of {d:Df} {j:Nat} (h:dfHead d j = 0):1 ≤ d.kind ∧ d.kind ≤ 4:=by
 unfold dfHead at h
 by_cases hn:nodeW d.kind 4 40 j ≠ 0
 ·rw [if_pos hn] at h; exact absurd h hn
 ·have:=nodeW_zero (by simpa using hn); exact ⟨this.2.1,this.2.2.1⟩
theorem owners_bare (hD:39 ≤ D) (l:List Df):owners (l.map (Sy.dfZ D)) = owners l:=by
 unfold owners
 rw [wrongL_bareZ hD]
 by_cases h0:(wrongL l).1 ≠ 0
 ·rw [if_pos h0,if_pos h0]
 ·rw [if_neg h0,if_neg h0,prog_bare]
  have hf:=(right_fit (by simpa using h0)).2
  have hk:∀ d ∈ l,1 ≤ d.kind ∧ d.kind ≤ 4:=fun d hd => by
   obtain ⟨i,hi⟩:=List.mem_iff_getElem?.1 hd
   obtain ⟨j,_,h,_⟩:=hf i d hi
   exact kind_of h
  rw [each_bare (f:=head l) l 0 (fun d _ => head_bare d),each_bare (f:=bodyT l) l 0 (fun d hd => bodyT_bare hD (hk d hd))]
  cases prog l with
  | some e => rfl
  | none =>
   cases each (head l) l 0 with
   | error e => rfl
   | ok x =>
    cases each (bodyT l) l 0 with
    | error e => rfl
    | ok talks =>
     show ownersFrom _ talks (List.range (l.map (Sy.dfZ D)).length) = ownersFrom l talks _
     rw [List.length_map,from_bare]
theorem chk_bare (hD:39 ≤ D) (l:List Df):chk (l.map (Sy.dfZ D)) = chk l:=by
 unfold chk
 rw [owners_bare hD]
end
end Sm
def CBare (d:Nat):Prop:=∀ (B h:Nat) (x y:Sy.Ex) (a:Option Addr) (c:Nat) (w:World),Hid (Sy.LmE d x) → B ≤ w.heap.size → Hid (ExIn B w h x a) → Hid (y = Sy.exB d x) →
 Calls Tryz.prog 38 #[exV x a c] w fun e w' => ∃ a' c',e = .returned (exV y a' c') ∧ ExQ (Mad w w') w' d y a' ∧ Below w.heap.size w w'
def HdAt (w:World) (X:Obj) (k n:Int) (s:ByteArray) (W:World):Prop:=Below w.heap.size w W ∧ W.heap[w.heap.size]? = some X ∧ W.heap[w.heap.size + 1]? = some ZE ∧ W.heap[w.heap.size + 1 + 1]? = some (exO k n s (.slice none 0 0)) ∧ W.heap.size = w.heap.size + 1 + 1 + 1
theorem kids_lim {B n:Nat} {w:World} {x:Sy.Ex} {a:Option Addr} (h:ExIn B w n x a):(if x.kind = 3 ∨ x.kind = 19 ∨ x.kind = 20 ∨ x.kind = 22 then x.name else ⟨#[]⟩:ByteArray).size ≤ maxLen:=by
 split
 ·cases n with
  | zero => exact h.elim
  | succ n => exact h.1
 ·exact Nat.zero_le _
theorem hd_start (w:World) (X:Obj) (k:Int):HdAt w X k 0 ⟨#[]⟩ (((w.alloc X).alloc ZE).alloc (exO k 0 ⟨#[]⟩ (.slice none 0 0))):=by
 have h1:((w.alloc X).alloc ZE).heap.size = w.heap.size + 1 + 1:=by simp
 refine ⟨(((Below.refl _ w).alloc (Nat.le_refl _) _).alloc (by simp) _).alloc (by simp; omega) _,?_,?_,?_,by simp⟩
 ·rw [Below.heap_alloc _ _ _ (by simp; omega)]; exact sx_at1 _ _ _
 ·rw [Below.heap_alloc _ _ _ (by simp)]; exact sx_at2 _ _ _
 ·have:=heap_alloc_new ((w.alloc X).alloc ZE) (exO k 0 ⟨#[]⟩ (.slice none 0 0))
  rw [h1] at this
  exact this
theorem HdAt.set {w:World} {X:Obj} {k n n':Int} {s s':ByteArray} {W:World} {o:Nat} {u:Value} (h:HdAt w X k n s W) (ho:(W.setCell ⟨w.heap.size + 1 + 1,o,none⟩ u).heap[w.heap.size + 1 + 1]? = some (exO k n' s' (.slice none 0 0))):HdAt w X k n' s' (W.setCell ⟨w.heap.size + 1 + 1,o,none⟩ u) :=
 ⟨h.1.setCell (by show w.heap.size ≤ w.heap.size + 1 + 1; omega) _,(Below.heap_setCell _ _ _ _ (by show w.heap.size ≠ w.heap.size + 1 + 1; omega)).trans h.2.1,(Below.heap_setCell _ _ _ _ (by show w.heap.size + 1 ≠ w.heap.size + 1 + 1; omega)).trans h.2.2.1,ho,by simp only [World.setCell_size]; exact h.2.2.2.2⟩
theorem exo_set1 {w:World} {M:Nat} {k n m:Int} {s:ByteArray} {v:Value} (h:w.heap[M]? = some (exO k n s v)):(w.setCell ⟨M,1,none⟩ (.int .i64 m)).heap[M]? = some (exO k m s v):=by
 simp only [World.setCell,Array.getElem?_modify,if_true,h,Option.map_some]
 rfl
theorem exo_set2 {w:World} {M:Nat} {k n:Int} {s t:ByteArray} {v:Value} (h:w.heap[M]? = some (exO k n s v)):(w.setCell ⟨M,2,none⟩ (.string t)).heap[M]? = some (exO k n t v):=by
 simp only [World.setCell,Array.getElem?_modify,if_true,h,Option.map_some]
 rfl
theorem exo_free {w:World} {M:Nat} {k n:Int} {s:ByteArray} {v:Value} (h:w.heap[M]? = some (exO k n s v)):w.frozen? ⟨M,0,none⟩ = false ∧ w.frozen? ⟨M,1,none⟩ = false ∧ w.frozen? ⟨M,2,none⟩ = false ∧ w.frozen? ⟨M,3,none⟩ = false:=by simp [World.frozen?,h]
theorem exo_four {w:World} {M:Nat} {k k' n n':Int} {s s':ByteArray} {v v':Value} (h:w.heap[M]? = some (exO k n s v)):((((w.setCell ⟨M,0,none⟩ (.int .i64 k')).setCell ⟨M,1,none⟩ (.int .i64 n')).setCell ⟨M,2,none⟩ (.string s')).setCell ⟨M,3,none⟩ v').heap[M]? = some (exO k' n' s' v'):=by
 simp only [World.setCell,Array.getElem?_modify,if_true,h,Option.map_some]
 rfl
theorem HdAt.bx {w:World} {X:Obj} {k n:Int} {s:ByteArray} {W:World} (h:HdAt w X k n s W) (d:Nat):BxAt w d X k n s [] [] (.slice none 0 0) W :=
 ⟨h.1,h.2.1,h.2.2.1,h.2.2.2.1,World.ownsRow_nil _ _ _ _,rfl,fun it hit => by cases hit⟩
theorem bareExpr_step (d:Nat) (ih:CBare d):CBare (d + 1):=by
 intro B h x y0 a c w hok hB hX hy0
 have IH:=hideX ih
 obtain ⟨h6,hkok⟩:=hok.out
 have HKO:=hideX hkok
 have hsz:=kids_lim hX.out
 obtain ⟨n',hn'⟩:∃ n':Int,n' = if x.kind = 1 ∨ x.kind = 2 then x.n else 0:=⟨_,rfl⟩
 obtain ⟨s',hs'⟩:∃ s':ByteArray,s' = if x.kind = 3 ∨ x.kind = 19 ∨ x.kind = 20 ∨ x.kind = 22 then x.name else ⟨#[]⟩:=⟨_,rfl⟩
 obtain ⟨g1,hg1⟩:∃ g1:Bool,g1 = decide (x.kind = 1 ∨ x.kind = 2):=⟨_,rfl⟩
 obtain ⟨g2,hg2⟩:∃ g2:Bool,g2 = decide (x.kind = 3 ∨ x.kind = 19 ∨ x.kind = 20 ∨ x.kind = 22):=⟨_,rfl⟩
 rw [← hs'] at hsz
 have HN:=hideX hn'
 have HS:=hideX hs'
 have HG1:=hideX hg1
 have HG2:=hideX hg2
 have HSZ:=hideX hsz
 have HY0:Hid (y0 = ⟨x.kind,n',s',x.kids.map (Sy.exB d)⟩):=by rw [hy0.out,hn',hs']; rfl
 obtain ⟨i0,hi,hz0,hz1,hz2⟩:=info_parts Tryz.info92
 clear ih hkok hn' hs' hg1 hg2 hsz hy0 hok
 obtain ⟨W0,hW0⟩:∃ W0,((w.alloc (exO x.kind x.n x.name (.slice a x.kids.length c))).alloc ZE).alloc (exO x.kind 0 ⟨#[]⟩ (.slice none 0 0)) = W0:=⟨_,rfl⟩
 have HH0:Hid (HdAt w (exO x.kind x.n x.name (.slice a x.kids.length c)) x.kind 0 ⟨#[]⟩ W0):=by rw [← hW0]; exact hd_start _ _ _
 have HW0:=hideX hW0
 clear hW0
 obtain ⟨p0,p1,p2,p3⟩:=sx_cells HH0.out.2.1
 obtain ⟨q0,q1,q2,q3⟩:=sx_cells HH0.out.2.2.2.1
 obtain ⟨f0,f1,f2,f3⟩:=exo_free HH0.out.2.2.2.1
 go_enter Tryz.func38,Tryz.ntmps38
 go_upto_region 2 with fail
 rw [HW0.out]
 go_cut [16] (fun v wx => v = .bool g1 ∧ wx = W0)
 case first =>
  by_cases h1:x.kind = 1
  ·have e1:(x.kind == 1) = true:=by simpa using h1
   have E':g1 = true:=by rw [HG1.out]; simp [h1]
   have E:=hideX E'
   clear E'
   clear h1
   go_wp2_with fail
   go_meet
   exact ⟨by rw [E.out],rfl⟩
  ·have e1:(x.kind == 1) = false:=by simpa using h1
   by_cases h2:x.kind = 2
   ·have e2:(x.kind == 2) = true:=by simpa using h2
    have E':g1 = true:=by rw [HG1.out]; simp [h2]
    have E:=hideX E'
    clear E'
    clear h1 h2
    go_wp2_with fail
    go_meet
    exact ⟨by rw [E.out],rfl⟩
   ·have e2:(x.kind == 2) = false:=by simpa using h2
    have E':g1 = false:=by rw [HG1.out]; simp [h1,h2]
    have E:=hideX E'
    clear E'
    clear h1 h2
    go_wp2_with fail
    go_meet
    exact ⟨by rw [E.out],rfl⟩
 case rest =>
  obtain ⟨rfl,rfl⟩:=hcut
  go_upto_if 16 with fail
  go_cut [] (fun wx => HdAt w (exO x.kind x.n x.name (.slice a x.kids.length c)) x.kind n' ⟨#[]⟩ wx)
  case first =>
   cases g1 with
   | true =>
    have E:n' = x.n:=by rw [HN.out,if_pos (of_decide_eq_true HG1.out.symm)]
    have HE:=hideX E
    clear E
    go_wp2_with fail
    go_meet
    rw [HE.out]
    exact HH0.out.set (exo_set1 HH0.out.2.2.2.1)
   | false =>
    have E:n' = 0:=by rw [HN.out,if_neg (of_decide_eq_false HG1.out.symm)]
    have HE:=hideX E
    clear E
    go_wp2_with fail
    go_meet
    rw [HE.out]
    exact HH0.out
  case rest =>
   have HH1:Hid (HdAt w (exO x.kind x.n x.name (.slice a x.kids.length c)) x.kind n' ⟨#[]⟩ wc):=hcut
   clear hcut p0 p1 p2 p3 q0 q1 q2 q3 f0 f1 f2 f3 HH0 HW0
   obtain ⟨p0,p1,p2,p3⟩:=sx_cells HH1.out.2.1
   obtain ⟨q0,q1,q2,q3⟩:=sx_cells HH1.out.2.2.2.1
   obtain ⟨f0,f1,f2,f3⟩:=exo_free HH1.out.2.2.2.1
   go_upto_region 4 with fail
   go_cut [37] (fun v wx => v = .bool g2 ∧ wx = wc)
   case first =>
    by_cases h1:x.kind = 3
    ·have e1:(x.kind == 3) = true:=by simpa using h1
     have E':g2 = true:=by rw [HG2.out]; simp [h1]
     have E:=hideX E'
     clear E' h1
     go_wp2_with fail
     go_meet
     exact ⟨by rw [E.out],rfl⟩
    have e1:(x.kind == 3) = false:=by simpa using h1
    by_cases h2:x.kind = 20
    ·have e2:(x.kind == 20) = true:=by simpa using h2
     have E':g2 = true:=by rw [HG2.out]; simp [h2]
     have E:=hideX E'
     clear E' h1 h2
     go_wp2_with fail
     go_meet
     exact ⟨by rw [E.out],rfl⟩
    have e2:(x.kind == 20) = false:=by simpa using h2
    by_cases h3:x.kind = 19
    ·have e3:(x.kind == 19) = true:=by simpa using h3
     have E':g2 = true:=by rw [HG2.out]; simp [h3]
     have E:=hideX E'
     clear E' h1 h2 h3
     go_wp2_with fail
     go_meet
     exact ⟨by rw [E.out],rfl⟩
    have e3:(x.kind == 19) = false:=by simpa using h3
    by_cases h4:x.kind = 22
    ·have e4:(x.kind == 22) = true:=by simpa using h4
     have E':g2 = true:=by rw [HG2.out]; simp [h4]
     have E:=hideX E'
     clear E' h1 h2 h3 h4
     go_wp2_with fail
     go_meet
     exact ⟨by rw [E.out],rfl⟩
    have e4:(x.kind == 22) = false:=by simpa using h4
    have E':g2 = false:=by rw [HG2.out]; simp [h1,h2,h3,h4]
    have E:=hideX E'
    clear E' h1 h2 h3 h4
    go_wp2_with fail
    go_meet
    exact ⟨by rw [E.out],rfl⟩
   case rest =>
    obtain ⟨rfl,rfl⟩:=hcut
    go_upto_if 37 with fail
    go_cut [] (fun wx => HdAt w (exO x.kind x.n x.name (.slice a x.kids.length c)) x.kind n' s' wx)
    case first =>
     cases g2 with
     | true =>
      have E:s' = x.name:=by rw [HS.out,if_pos (of_decide_eq_true HG2.out.symm)]
      have HE:=hideX E
      clear E
      go_wp2_with fail
      go_meet
      rw [HE.out]
      exact HH1.out.set (exo_set2 HH1.out.2.2.2.1)
     | false =>
      have E:s' = ⟨#[]⟩:=by rw [HS.out,if_neg (of_decide_eq_false HG2.out.symm)]
      have HE:=hideX E
      clear E
      go_wp2_with fail
      go_meet
      rw [HE.out]
      exact HH1.out
    case rest =>
     have HH2:Hid (HdAt w (exO x.kind x.n x.name (.slice a x.kids.length c)) x.kind n' s' wc):=hcut
     clear hcut p0 p1 p2 p3 q0 q1 q2 q3 f0 f1 f2 f3 HH1
     obtain ⟨p0,p1,p2,p3⟩:=sx_cells HH2.out.2.1
     go_wp2
     clear p0 p1 p2 p3
     go_loopw [44] (fun i wr => ∃ (its:List Itm) (v:Value),its.length ≤ x.kids.length ∧ i = .int .i64 its.length ∧ Hid (BxAt w d (exO x.kind x.n x.name (.slice a x.kids.length c)) x.kind n' s' (x.kids.take its.length) its v wr)) (fun i _ => x.kids.length - (intOf i).toNat)
     case atStart => exact ⟨[],_,Nat.zero_le _,rfl,HH2.out.bx d⟩
     case round =>
      obtain ⟨its,v,hk,rfl,HA⟩:=hrel
      by_cases hlt:its.length < x.kids.length
      ·obtain ⟨kid,hkid⟩:∃ kid,x.kids[its.length]? = some kid:=⟨_,List.getElem?_eq_getElem hlt⟩
       have HKd:=hideX hkid
       have HKo:Hid (Sy.LmE d kid):=HKO.out kid (List.mem_of_getElem? hkid)
       obtain ⟨b1,o1,a',c',rfl,hb1,u0,u1,u2,u3,i1⟩:∃ b off a' c',a = some ⟨b,off,none⟩ ∧ b < B ∧ w.cell? ⟨b,off + its.length * 4,none⟩ = some (.int .i64 kid.kind) ∧ w.cell? ⟨b,off + its.length * 4 + 1,none⟩ = some (.int .i64 kid.n) ∧ w.cell? ⟨b,off + its.length * 4 + 2,none⟩ = some (.string kid.name) ∧ w.cell? ⟨b,off + its.length * 4 + 3,none⟩ = some (.slice a' kid.kids.length c') ∧ ∃ h',ExIn B w h' kid a':=by
        cases h with
        | zero => exact hX.out.elim
        | succ h =>
         obtain ⟨b,off,a',c',ha,hb,c0,c1,c2,c3,hin⟩:=hX.out.2.2 its.length kid hkid
         exact ⟨b,off,a',c',ha,hb,c0,c1,c2,c3,h,hin⟩
       obtain ⟨h',i1⟩:=i1
       have hsw:=same_below HA.out.bel
       have hwz:=HA.out.bel.size
       rw [← hsw _ _ (by omega)] at u0 u1 u2 u3
       have hMr:w.heap.size + 1 + 1 < wr.heap.size:=lt_of_block HA.out.ob
       have hbr:b1 < wr.heap.size:=by omega
       obtain ⟨y,hy⟩:∃ y,y = Sy.exB d kid:=⟨_,rfl⟩
       have HY:=hideX hy
       obtain ⟨V,hV⟩:∃ V,wr.alloc (exO kid.kind kid.n kid.name (.slice a' kid.kids.length c')) = V:=⟨_,rfl⟩
       have HVb:Hid (Below wr.heap.size wr V):=by rw [← hV]; exact (Below.refl _ wr).alloc (Nat.le_refl _) _
       have hVs:V.heap.size = wr.heap.size + 1:=by rw [← hV]; simp
       have HVs:=hideX hVs
       clear hVs
       have hV0:V.heap[wr.heap.size]? = some (exO kid.kind kid.n kid.name (.slice a' kid.kids.length c')):=by rw [← hV]; exact heap_alloc_new _ _
       obtain ⟨t0,t1,t2,t3⟩:=sx_cells hV0
       obtain ⟨_,_,_,m3⟩:=sx_cells HA.out.ob
       have v3:=sx_cell HVb.out hMr m3
       have HI:Hid (ExIn B V h' kid a'):=i1.same (fun b o hb => (same_below HVb.out b o (by omega)).trans (hsw b o (by omega)))
       have m0:(0:Int) ≤ (its.length:Int):=by omega
       have m1:(its.length:Int) < (x.kids.length:Int):=by omega
       have HVe:=hideX hV
       clear hkid hsw i1 hy hV0 hb1 hV
       go_upto_region 9 with fail
       rw [HVe.out]
       refine wp_region_any (by kernel_rfl) ?_
       change wpAny _ _ _ _ _ _ _ (World.drew _)
       refine wpAny_take (i:=0) (v:=.pointer (some ⟨w.heap.size + 1 + 1,3,none⟩)) rfl (by kernel_rfl) (by kernel_rfl) (by kernel_rfl) (fun _ _ _ h => h) (Or.inl ⟨by rfl,?_⟩) ?_
       ·intro w; go_simp
       simp only [Act.put]
       refine wpAny_ready (rs:=[1,2]) (by kernel_rfl) (by simp) ?_
       refine AllReady.cons rfl (fun K hK => ?_) ?_
       ·go_simp
        refine hK _ _ ?_
        clear hK K
        refine wpAny_ready (rs:=[2]) (by kernel_rfl) (by simp) ?_
        refine AllReady.cons rfl (fun K hK => ?_) ?_
        ·go_simp
         refine hK _ _ ?_
         clear hK K
         refine wpAny_ready (rs:=[3]) (by kernel_rfl) (by simp) ?_
         refine AllReady.cons rfl (fun K hK => ?_) ?_
         ·go_simp
          refine (IH.out B h' kid y a' c' V.drew HKo (by have:=HVs.out; show B ≤ V.heap.size; omega) (ExIn.same (w:=V) (w':=V.drew) (fun _ _ _ => rfl) h' kid a' HI.out) HY).mono ?_
          rintro e w1 ⟨ya,yc,rfl,hq1,hb1⟩
          have hb1':Below V.heap.size V w1:=(Below.refl _ V).drew.trans hb1
          have HBw:Hid (Below wr.heap.size wr w1):=HVb.out.trans (hb1'.mono HVb.out.size)
          have HQ1:Hid (ExQ (fun b => wr.heap.size ≤ b ∧ b < w1.heap.size) w1 d y ya):=hq1.keep (fun b hb => ⟨⟨Nat.le_trans HVb.out.size hb.1,hb.2⟩,rfl⟩)
          have hw1:w.heap.size + 1 + 1 < w1.heap.size:=by have:=HBw.out.size; omega
          have k3:=sx_cell HBw.out hMr m3
          have k3a:(w1.alloc (exO y.kind y.n y.name (.slice ya y.kids.length yc))).cell? ⟨w.heap.size + 1 + 1,3,none⟩ = some v:=(World.cell?_of_block (w:=w1) (Below.heap_alloc _ _ _ hw1)).trans k3
          have HO1:Hid ((w1.alloc (exO y.kind y.n y.name (.slice ya y.kids.length yc))).ownsRow (w.heap.size + 1 + 1 + 1) 92 4 v its.length (cells4 its)):=(HA.out.own.kept (row:=none) ⟨HBw.out.os,HBw.out.tape,HBw.out.output,HBw.out.size,fun k hk _ => HBw.out.block k hk⟩ (by cases hv:v.ownBlock with | none => exact .inl rfl | some _ => exact .inr (by simp))).alloc _
          clear hq1 hb1 hb1'
          refine hK _ _ ?_
          clear hK K
          refine wpAny_ready (rs:=[4]) (by kernel_rfl) (by simp) ?_
          refine AllReady.cons rfl (fun K hK => ?_) ?_
          ·go_simp
           refine hK _ _ ?_
           clear hK K
           refine wpAny_ready (rs:=[5]) (by kernel_rfl) (by simp) ?_
           refine AllReady.cons rfl (fun K hK => ?_) ?_
           ·skip
            refine step_append_where rfl (.tmp 49) (.tmp 52) 90 rfl (w.heap.size + 1 + 1 + 1) 92 i0 _ 4 56 Tryz.underlying90 hi hz0 hz1 hz2 rfl (by decide) v its.length (cells4 its) rfl HO1.out ⟨_,0,none⟩ 1 1 (cells4 [(y,ya,yc)]) rfl rfl (ex_news (heap_alloc_new w1 _)) (cells4_one _) (by decide) (by unfold maxLen; omega) (by omega) (by simp; omega) ?_
            intro g cap w4 hown4 hg4 hw4
            have HA4:=hideX (HA.out.more (c':=yc) HBw.out HY.out HQ1.out hown4 hg4 hw4)
            have hM4:w4.heap[w.heap.size + 1 + 1]? = some (exO x.kind n' s' v):=by
             have hv:=HA.out.own.lt
             refine (hg4.block _ (by simp; omega) (fun e => by have:=(hv _ e.symm).1; omega)).trans ?_
             exact (Below.heap_alloc _ _ _ hw1).trans ((HBw.out.block _ hMr).trans HA.out.ob)
            obtain ⟨_,_,_,f3⟩:=exo_free hM4
            obtain ⟨_,_,_,l3⟩:=sx_cells hM4
            clear hown4 hg4 hw4 hM4
            refine hK _ _ ?_
            clear hK K
            simp only [Act.put]
            refine wpAny_take (i:=6) (v:=.pointer (some ⟨w.heap.size + 1 + 1,3,none⟩)) rfl (by kernel_rfl) (by kernel_rfl) (by kernel_rfl) (fun _ _ _ h => h) (Or.inl ⟨by rfl,?_⟩) ?_
            ·intro w; go_simp
            simp only [Act.put]
            refine wpAny_ready (rs:=[7]) (by kernel_rfl) (by simp) ?_
            refine AllReady.cons rfl (fun K hK => ?_) ?_
            ·go_simp
             refine hK _ _ ?_
             clear hK K
             refine wpAny_done (by kernel_rfl) ?_ _
             go_wp2
             go_roundw
             case rel =>
              refine ⟨its ++ [(y,ya,yc)],.slice (some ⟨g,0,none⟩) (its.length + 1) cap,by simp; omega,by simp,?_⟩
              have ht:x.kids.take (its ++ [(y,ya,yc)]).length = x.kids.take its.length ++ [kid]:=by
               rw [List.length_append,List.length_singleton,List.take_add_one,HKd.out]
               rfl
              rw [ht]
              exact HA4.out
             case measure => simp [intOf]; omega
            exact AllReady.nil
           exact AllReady.nil
          exact AllReady.nil
         exact AllReady.nil
        exact AllReady.nil
       refine AllReady.cons rfl (fun K hK => ?_) ?_
       ·go_simp
        refine hK _ _ ?_
        clear hK K
        refine wpAny_ready (rs:=[1,3]) (by kernel_rfl) (by simp) ?_
        refine AllReady.cons rfl (fun K hK => ?_) ?_
        ·go_simp
         refine hK _ _ ?_
         clear hK K
         refine wpAny_ready (rs:=[3]) (by kernel_rfl) (by simp) ?_
         refine AllReady.cons rfl (fun K hK => ?_) ?_
         ·go_simp
          refine (IH.out B h' kid y a' c' V.drew HKo (by have:=HVs.out; show B ≤ V.heap.size; omega) (ExIn.same (w:=V) (w':=V.drew) (fun _ _ _ => rfl) h' kid a' HI.out) HY).mono ?_
          rintro e w1 ⟨ya,yc,rfl,hq1,hb1⟩
          have hb1':Below V.heap.size V w1:=(Below.refl _ V).drew.trans hb1
          have HBw:Hid (Below wr.heap.size wr w1):=HVb.out.trans (hb1'.mono HVb.out.size)
          have HQ1:Hid (ExQ (fun b => wr.heap.size ≤ b ∧ b < w1.heap.size) w1 d y ya):=hq1.keep (fun b hb => ⟨⟨Nat.le_trans HVb.out.size hb.1,hb.2⟩,rfl⟩)
          have hw1:w.heap.size + 1 + 1 < w1.heap.size:=by have:=HBw.out.size; omega
          have k3:=sx_cell HBw.out hMr m3
          have k3a:(w1.alloc (exO y.kind y.n y.name (.slice ya y.kids.length yc))).cell? ⟨w.heap.size + 1 + 1,3,none⟩ = some v:=(World.cell?_of_block (w:=w1) (Below.heap_alloc _ _ _ hw1)).trans k3
          have HO1:Hid ((w1.alloc (exO y.kind y.n y.name (.slice ya y.kids.length yc))).ownsRow (w.heap.size + 1 + 1 + 1) 92 4 v its.length (cells4 its)):=(HA.out.own.kept (row:=none) ⟨HBw.out.os,HBw.out.tape,HBw.out.output,HBw.out.size,fun k hk _ => HBw.out.block k hk⟩ (by cases hv:v.ownBlock with | none => exact .inl rfl | some _ => exact .inr (by simp))).alloc _
          clear hq1 hb1 hb1'
          refine hK _ _ ?_
          clear hK K
          refine wpAny_ready (rs:=[4]) (by kernel_rfl) (by simp) ?_
          refine AllReady.cons rfl (fun K hK => ?_) ?_
          ·go_simp
           refine hK _ _ ?_
           clear hK K
           refine wpAny_ready (rs:=[5]) (by kernel_rfl) (by simp) ?_
           refine AllReady.cons rfl (fun K hK => ?_) ?_
           ·skip
            refine step_append_where rfl (.tmp 49) (.tmp 52) 90 rfl (w.heap.size + 1 + 1 + 1) 92 i0 _ 4 56 Tryz.underlying90 hi hz0 hz1 hz2 rfl (by decide) v its.length (cells4 its) rfl HO1.out ⟨_,0,none⟩ 1 1 (cells4 [(y,ya,yc)]) rfl rfl (ex_news (heap_alloc_new w1 _)) (cells4_one _) (by decide) (by unfold maxLen; omega) (by omega) (by simp; omega) ?_
            intro g cap w4 hown4 hg4 hw4
            have HA4:=hideX (HA.out.more (c':=yc) HBw.out HY.out HQ1.out hown4 hg4 hw4)
            have hM4:w4.heap[w.heap.size + 1 + 1]? = some (exO x.kind n' s' v):=by
             have hv:=HA.out.own.lt
             refine (hg4.block _ (by simp; omega) (fun e => by have:=(hv _ e.symm).1; omega)).trans ?_
             exact (Below.heap_alloc _ _ _ hw1).trans ((HBw.out.block _ hMr).trans HA.out.ob)
            obtain ⟨_,_,_,f3⟩:=exo_free hM4
            obtain ⟨_,_,_,l3⟩:=sx_cells hM4
            clear hown4 hg4 hw4 hM4
            refine hK _ _ ?_
            clear hK K
            simp only [Act.put]
            refine wpAny_take (i:=6) (v:=.pointer (some ⟨w.heap.size + 1 + 1,3,none⟩)) rfl (by kernel_rfl) (by kernel_rfl) (by kernel_rfl) (fun _ _ _ h => h) (Or.inl ⟨by rfl,?_⟩) ?_
            ·intro w; go_simp
            simp only [Act.put]
            refine wpAny_ready (rs:=[7]) (by kernel_rfl) (by simp) ?_
            refine AllReady.cons rfl (fun K hK => ?_) ?_
            ·go_simp
             refine hK _ _ ?_
             clear hK K
             refine wpAny_done (by kernel_rfl) ?_ _
             go_wp2
             go_roundw
             case rel =>
              refine ⟨its ++ [(y,ya,yc)],.slice (some ⟨g,0,none⟩) (its.length + 1) cap,by simp; omega,by simp,?_⟩
              have ht:x.kids.take (its ++ [(y,ya,yc)]).length = x.kids.take its.length ++ [kid]:=by
               rw [List.length_append,List.length_singleton,List.take_add_one,HKd.out]
               rfl
              rw [ht]
              exact HA4.out
             case measure => simp [intOf]; omega
            exact AllReady.nil
           exact AllReady.nil
          exact AllReady.nil
         exact AllReady.nil
        refine AllReady.cons rfl (fun K hK => ?_) ?_
        ·go_simp
         refine (IH.out B h' kid y a' c' V.drew HKo (by have:=HVs.out; show B ≤ V.heap.size; omega) (ExIn.same (w:=V) (w':=V.drew) (fun _ _ _ => rfl) h' kid a' HI.out) HY).mono ?_
         rintro e w1 ⟨ya,yc,rfl,hq1,hb1⟩
         have hb1':Below V.heap.size V w1:=(Below.refl _ V).drew.trans hb1
         have HBw:Hid (Below wr.heap.size wr w1):=HVb.out.trans (hb1'.mono HVb.out.size)
         have HQ1:Hid (ExQ (fun b => wr.heap.size ≤ b ∧ b < w1.heap.size) w1 d y ya):=hq1.keep (fun b hb => ⟨⟨Nat.le_trans HVb.out.size hb.1,hb.2⟩,rfl⟩)
         have hw1:w.heap.size + 1 + 1 < w1.heap.size:=by have:=HBw.out.size; omega
         have k3:=sx_cell HBw.out hMr m3
         have k3a:(w1.alloc (exO y.kind y.n y.name (.slice ya y.kids.length yc))).cell? ⟨w.heap.size + 1 + 1,3,none⟩ = some v:=(World.cell?_of_block (w:=w1) (Below.heap_alloc _ _ _ hw1)).trans k3
         have HO1:Hid ((w1.alloc (exO y.kind y.n y.name (.slice ya y.kids.length yc))).ownsRow (w.heap.size + 1 + 1 + 1) 92 4 v its.length (cells4 its)):=(HA.out.own.kept (row:=none) ⟨HBw.out.os,HBw.out.tape,HBw.out.output,HBw.out.size,fun k hk _ => HBw.out.block k hk⟩ (by cases hv:v.ownBlock with | none => exact .inl rfl | some _ => exact .inr (by simp))).alloc _
         clear hq1 hb1 hb1'
         refine hK _ _ ?_
         clear hK K
         refine wpAny_ready (rs:=[1,4]) (by kernel_rfl) (by simp) ?_
         refine AllReady.cons rfl (fun K hK => ?_) ?_
         ·go_simp
          refine hK _ _ ?_
          clear hK K
          refine wpAny_ready (rs:=[4]) (by kernel_rfl) (by simp) ?_
          refine AllReady.cons rfl (fun K hK => ?_) ?_
          ·go_simp
           refine hK _ _ ?_
           clear hK K
           refine wpAny_ready (rs:=[5]) (by kernel_rfl) (by simp) ?_
           refine AllReady.cons rfl (fun K hK => ?_) ?_
           ·skip
            refine step_append_where rfl (.tmp 49) (.tmp 52) 90 rfl (w.heap.size + 1 + 1 + 1) 92 i0 _ 4 56 Tryz.underlying90 hi hz0 hz1 hz2 rfl (by decide) v its.length (cells4 its) rfl HO1.out ⟨_,0,none⟩ 1 1 (cells4 [(y,ya,yc)]) rfl rfl (ex_news (heap_alloc_new w1 _)) (cells4_one _) (by decide) (by unfold maxLen; omega) (by omega) (by simp; omega) ?_
            intro g cap w4 hown4 hg4 hw4
            have HA4:=hideX (HA.out.more (c':=yc) HBw.out HY.out HQ1.out hown4 hg4 hw4)
            have hM4:w4.heap[w.heap.size + 1 + 1]? = some (exO x.kind n' s' v):=by
             have hv:=HA.out.own.lt
             refine (hg4.block _ (by simp; omega) (fun e => by have:=(hv _ e.symm).1; omega)).trans ?_
             exact (Below.heap_alloc _ _ _ hw1).trans ((HBw.out.block _ hMr).trans HA.out.ob)
            obtain ⟨_,_,_,f3⟩:=exo_free hM4
            obtain ⟨_,_,_,l3⟩:=sx_cells hM4
            clear hown4 hg4 hw4 hM4
            refine hK _ _ ?_
            clear hK K
            simp only [Act.put]
            refine wpAny_take (i:=6) (v:=.pointer (some ⟨w.heap.size + 1 + 1,3,none⟩)) rfl (by kernel_rfl) (by kernel_rfl) (by kernel_rfl) (fun _ _ _ h => h) (Or.inl ⟨by rfl,?_⟩) ?_
            ·intro w; go_simp
            simp only [Act.put]
            refine wpAny_ready (rs:=[7]) (by kernel_rfl) (by simp) ?_
            refine AllReady.cons rfl (fun K hK => ?_) ?_
            ·go_simp
             refine hK _ _ ?_
             clear hK K
             refine wpAny_done (by kernel_rfl) ?_ _
             go_wp2
             go_roundw
             case rel =>
              refine ⟨its ++ [(y,ya,yc)],.slice (some ⟨g,0,none⟩) (its.length + 1) cap,by simp; omega,by simp,?_⟩
              have ht:x.kids.take (its ++ [(y,ya,yc)]).length = x.kids.take its.length ++ [kid]:=by
               rw [List.length_append,List.length_singleton,List.take_add_one,HKd.out]
               rfl
              rw [ht]
              exact HA4.out
             case measure => simp [intOf]; omega
            exact AllReady.nil
           exact AllReady.nil
          exact AllReady.nil
         refine AllReady.cons rfl (fun K hK => ?_) ?_
         ·go_simp
          refine hK _ _ ?_
          clear hK K
          refine wpAny_ready (rs:=[1]) (by kernel_rfl) (by simp) ?_
          refine AllReady.cons rfl (fun K hK => ?_) ?_
          ·go_simp
           refine hK _ _ ?_
           clear hK K
           refine wpAny_ready (rs:=[5]) (by kernel_rfl) (by simp) ?_
           refine AllReady.cons rfl (fun K hK => ?_) ?_
           ·skip
            refine step_append_where rfl (.tmp 49) (.tmp 52) 90 rfl (w.heap.size + 1 + 1 + 1) 92 i0 _ 4 56 Tryz.underlying90 hi hz0 hz1 hz2 rfl (by decide) v its.length (cells4 its) rfl HO1.out ⟨_,0,none⟩ 1 1 (cells4 [(y,ya,yc)]) rfl rfl (ex_news (heap_alloc_new w1 _)) (cells4_one _) (by decide) (by unfold maxLen; omega) (by omega) (by simp; omega) ?_
            intro g cap w4 hown4 hg4 hw4
            have HA4:=hideX (HA.out.more (c':=yc) HBw.out HY.out HQ1.out hown4 hg4 hw4)
            have hM4:w4.heap[w.heap.size + 1 + 1]? = some (exO x.kind n' s' v):=by
             have hv:=HA.out.own.lt
             refine (hg4.block _ (by simp; omega) (fun e => by have:=(hv _ e.symm).1; omega)).trans ?_
             exact (Below.heap_alloc _ _ _ hw1).trans ((HBw.out.block _ hMr).trans HA.out.ob)
            obtain ⟨_,_,_,f3⟩:=exo_free hM4
            obtain ⟨_,_,_,l3⟩:=sx_cells hM4
            clear hown4 hg4 hw4 hM4
            refine hK _ _ ?_
            clear hK K
            simp only [Act.put]
            refine wpAny_take (i:=6) (v:=.pointer (some ⟨w.heap.size + 1 + 1,3,none⟩)) rfl (by kernel_rfl) (by kernel_rfl) (by kernel_rfl) (fun _ _ _ h => h) (Or.inl ⟨by rfl,?_⟩) ?_
            ·intro w; go_simp
            simp only [Act.put]
            refine wpAny_ready (rs:=[7]) (by kernel_rfl) (by simp) ?_
            refine AllReady.cons rfl (fun K hK => ?_) ?_
            ·go_simp
             refine hK _ _ ?_
             clear hK K
             refine wpAny_done (by kernel_rfl) ?_ _
             go_wp2
             go_roundw
             case rel =>
              refine ⟨its ++ [(y,ya,yc)],.slice (some ⟨g,0,none⟩) (its.length + 1) cap,by simp; omega,by simp,?_⟩
              have ht:x.kids.take (its ++ [(y,ya,yc)]).length = x.kids.take its.length ++ [kid]:=by
               rw [List.length_append,List.length_singleton,List.take_add_one,HKd.out]
               rfl
              rw [ht]
              exact HA4.out
             case measure => simp [intOf]; omega
            exact AllReady.nil
           exact AllReady.nil
          exact AllReady.nil
         exact AllReady.nil
        exact AllReady.nil
       exact AllReady.nil
      ·have hkl:its.length = x.kids.length:=by omega
       have hown:=HA.out.own
       obtain ⟨va,vc,hv,hq⟩:=own_exq (Q:=fun b => w.heap.size + 1 + 1 + 1 ≤ b ∧ b < wr.heap.size) (k:=x.kind) (nn:=n') (s:=s') hown (fun it hit => (HA.out.exq it hit).keep (fun b hb => ⟨⟨hb.1,hb.2.1⟩,rfl⟩)) (fun g hg => hown.lt g hg) (by unfold maxLen; omega) HSZ.out
       subst hv
       have hq2:ExQ (fun b => w.heap.size + 1 + 1 + 1 ≤ b ∧ b < wr.heap.size) wr (d + 1) y0 va:=by
        rw [HY0.out]
        have e:=HA.out.eq
        rw [hkl,List.take_length] at e
        rw [← e]
        exact hq
       have hyl:y0.kids.length = its.length:=by rw [HY0.out]; simp [hkl]
       have HQ2:=hideX hq2
       have HYL:=hideX hyl
       have HBr:=hideX HA.out.bel
       have hNr:w.heap.size + 1 + 1 < wr.heap.size:=lt_of_block HA.out.ob
       obtain ⟨q0,q1,q2,q3⟩:=sx_cells HA.out.ob
       obtain ⟨z0,z1,z2,z3⟩:=sx_cells HA.out.rb
       obtain ⟨f0,f1,f2,f3⟩:=exo_free (k:=0) (n:=0) (s:=⟨#[]⟩) HA.out.rb
       have HRb:=hideX HA.out.rb
       clear hq hq2 hyl hown HA HKO IH hX hkl
       obtain ⟨W9,hW9⟩:∃ W9,(((wr.setCell ⟨w.heap.size + 1,0,none⟩ (.int .i64 x.kind)).setCell ⟨w.heap.size + 1,1,none⟩ (.int .i64 n')).setCell ⟨w.heap.size + 1,2,none⟩ (.string s')).setCell ⟨w.heap.size + 1,3,none⟩ (.slice va its.length vc) = W9:=⟨_,rfl⟩
       have h9:W9.heap[w.heap.size + 1]? = some (exO x.kind n' s' (.slice va its.length vc)):=by rw [← hW9]; exact exo_four HRb.out
       have hB9:Below w.heap.size w W9:=by
        have h1:w.heap.size ≤ w.heap.size + 1:=Nat.le_succ _
        rw [← hW9]
        exact (((HBr.out.setCell (p:=⟨w.heap.size + 1,0,none⟩) h1 _).setCell (p:=⟨w.heap.size + 1,1,none⟩) h1 _).setCell (p:=⟨w.heap.size + 1,2,none⟩) h1 _).setCell (p:=⟨w.heap.size + 1,3,none⟩) h1 _
       have hq9:ExQ (Mad w W9) W9 (d + 1) y0 va:=HQ2.out.keep (fun b hb => by
        have h1:b ≠ w.heap.size + 1:=by omega
        refine ⟨⟨by omega,by rw [← hW9]; simp only [World.setCell_size]; omega⟩,?_⟩
        rw [← hW9,Below.heap_setCell _ _ _ _ h1,Below.heap_setCell _ _ _ _ h1,Below.heap_setCell _ _ _ _ h1,Below.heap_setCell _ _ _ _ h1])
       have hv9:exV y0 va vc = .agg #[.int .i64 x.kind,.int .i64 n',.string s',.slice va its.length vc]:=by
        have e:=HYL.out
        have e1:y0.kind = x.kind:=by rw [HY0.out]
        have e2:y0.n = n':=by rw [HY0.out]
        have e3:y0.name = s':=by rw [HY0.out]
        show Value.agg #[.int .i64 y0.kind,.int .i64 y0.n,.string y0.name,.slice va y0.kids.length vc] = _
        rw [e,e1,e2,e3]
       obtain ⟨r0,r1,r2,r3⟩:=sx_cells h9
       have HB9:=hideX hB9
       have HQ9:=hideX hq9
       have HV9:=hideX hv9
       clear hB9 hq9 hv9 h9
       go_wp2
       refine bodyPost_ret (v:=.agg #[.int .i64 x.kind,.int .i64 n',.string s',.slice va its.length vc]) (by simp [results,Tryz.results38,go_sem,r0,r1,r2,r3]) rfl ⟨va,vc,?_,HQ9.out,HB9.out⟩
       rw [HV9.out]
theorem bareExpr_any:∀ d,CBare d
 | 0 => fun _ _ _ _ _ _ _ h _ _ _ => h.out.elim
 | d + 1 => bareExpr_step d (bareExpr_any d)
structure BsAt (w:World) (d:Nat) (ls:List Sy.St) (its:List Itm8) (v:Value) (W:World):Prop where
 bel:Below w.heap.size w W
 own:W.ownsRow w.heap.size 94 8 v its.length (cells8 its)
 eq:its.map (·.1) = ls.map (Sy.stB d)
 sts:∀ it ∈ its,StQ (fun b => w.heap.size ≤ b ∧ b < W.heap.size ∧ v.ownBlock ≠ some b) W d it.1 it.2.1.1 it.2.2.1.1 it.2.2.2.1
theorem BsAt.more {w:World} {d:Nat} {ls:List Sy.St} {its:List Itm8} {v:Value} {W W1 w4:World} {s:Sy.St} {it:Itm8} {g cap:Nat} {T:TypeId} (A:BsAt w d ls its v W) (hb:Below W.heap.size W W1) (hs:it.1 = Sy.stB d s) (hq:StQ (fun b => W.heap.size ≤ b ∧ b < W1.heap.size) W1 d it.1 it.2.1.1 it.2.2.1.1 it.2.2.2.1)
  (hown:w4.ownsRow w.heap.size 94 8 (.slice (some ⟨g,0,none⟩) (its.length + 1) cap) (its.length + 1) (cells8 its ++ itc8 it)) (hg:(W1.alloc (.cells (itc8 it).toArray T)).grownBy w4 v.ownBlock) (hp:v.ownBlock = some g ∨ g = (W1.alloc (.cells (itc8 it).toArray T)).heap.size) :
  BsAt w d (ls ++ [s]) (its ++ [it]) (.slice (some ⟨g,0,none⟩) (its.length + 1) cap) w4:=by
 have hwW:=A.bel.size
 have hvb:=A.own.lt
 have hs1:=hb.size
 have hz:(W1.alloc (.cells (itc8 it).toArray T)).heap.size = W1.heap.size + 1:=by simp
 rw [hz] at hp
 have hs4:=hg.size
 rw [hz] at hs4
 have low:∀ b,b < W.heap.size → v.ownBlock ≠ some b → w4.heap[b]? = W.heap[b]?:=fun b h1 h2 => by
  rw [hg.block b (by omega) (fun e => h2 e.symm),Below.heap_alloc _ _ _ (by omega)]
  exact hb.block b h1
 have mid:∀ b,W.heap.size ≤ b → b < W1.heap.size → w4.heap[b]? = W1.heap[b]?:=fun b h1 h2 => by
  rw [hg.block b (by omega) (fun e => by have:=(hvb b e.symm).2; omega),Below.heap_alloc _ _ _ h2]
 have hne:g < W.heap.size → v.ownBlock = some g:=fun h => by
  rcases hp with hp | hp
  ·exact hp
  ·omega
 refine ⟨⟨hg.os.trans (hb.os.trans A.bel.os),hg.tape.trans (hb.tape.trans A.bel.tape),hg.output.trans (hb.output.trans A.bel.output),by omega,fun b hb' => (low b (by omega) (fun e => by have:=(hvb b e).1; omega)).trans (A.bel.block b hb')⟩,?_,?_,?_⟩
 ·have hl:(its ++ [it]).length = its.length + 1:=by simp
  rw [hl,cells8_app]
  exact hown
 ·rw [List.map_append,A.eq,List.map_append,List.map_cons,List.map_nil,List.map_cons,List.map_nil,hs]
 ·intro i hi
  rcases List.mem_append.1 hi with hi | hi
  ·exact (A.sts i hi).keep (fun b hb' => ⟨⟨hb'.1,by omega,fun e => by
    simp only [Value.ownBlock,Option.some.injEq] at e
    exact hb'.2.2 (by rw [← e]; exact hne (by omega))⟩,low b hb'.2.1 hb'.2.2⟩)
  ·rw [List.mem_singleton.1 hi]
   exact hq.keep (fun b hb' => ⟨⟨by omega,by omega,fun e => by
    simp only [Value.ownBlock,Option.some.injEq] at e
    rcases hp with hp | hp
    ·have:=(hvb g hp).2; omega
    ·omega⟩,mid b hb'.1 hb'.2⟩)
structure TAt (wr W:World) (S T:Obj):Prop where
 bel:Below wr.heap.size wr W
 sb:W.heap[wr.heap.size]? = some S
 tb:W.heap[wr.heap.size + 1]? = some T
theorem TAt.start (wr:World) (S T:Obj):TAt wr ((wr.alloc S).alloc T) S T:=⟨sx_bel2 _ _ _,sx_at1 _ _ _,sx_at2 _ _ _⟩
theorem TAt.lt {wr W:World} {S T:Obj} (h:TAt wr W S T):wr.heap.size + 1 < W.heap.size:=lt_of_block h.tb
theorem TAt.call {wr W W':World} {S T:Obj} (h:TAt wr W S T) (hb:Below W.heap.size W W'):TAt wr W' S T :=
 ⟨h.bel.trans (hb.mono h.bel.size),(hb.block _ (by have:=h.lt; omega)).trans h.sb,(hb.block _ h.lt).trans h.tb⟩
theorem TAt.set {wr W:World} {S T T':Obj} {o:Nat} {u:Value} (h:TAt wr W S T) (ht:(W.setCell ⟨wr.heap.size + 1,o,none⟩ u).heap[wr.heap.size + 1]? = some T'):TAt wr (W.setCell ⟨wr.heap.size + 1,o,none⟩ u) S T' :=
 ⟨h.bel.setCell (by show wr.heap.size ≤ wr.heap.size + 1; omega) _,(Below.heap_setCell _ _ _ _ (by show wr.heap.size ≠ wr.heap.size + 1; omega)).trans h.sb,ht⟩
section
variable {w:World} {M:Nat} {k xk xn:Int} {s xs:ByteArray} {xv bv ev:Value}
theorem stt_set1 (h:w.heap[M]? = some (sttO k s xk xn xs xv bv ev)) (t:ByteArray):(w.setCell ⟨M,1,none⟩ (.string t)).heap[M]? = some (sttO k t xk xn xs xv bv ev):=by
 simp only [World.setCell,Array.getElem?_modify,if_true,h,Option.map_some]
 rfl
theorem stt_set2 (h:w.heap[M]? = some (sttO k s xk xn xs xv bv ev)) (t:Int):(w.setCell ⟨M,2,none⟩ (.int .i64 t)).heap[M]? = some (sttO k s t xn xs xv bv ev):=by
 simp only [World.setCell,Array.getElem?_modify,if_true,h,Option.map_some]
 rfl
theorem stt_set3 (h:w.heap[M]? = some (sttO k s xk xn xs xv bv ev)) (t:Int):(w.setCell ⟨M,3,none⟩ (.int .i64 t)).heap[M]? = some (sttO k s xk t xs xv bv ev):=by
 simp only [World.setCell,Array.getElem?_modify,if_true,h,Option.map_some]
 rfl
theorem stt_set4 (h:w.heap[M]? = some (sttO k s xk xn xs xv bv ev)) (t:ByteArray):(w.setCell ⟨M,4,none⟩ (.string t)).heap[M]? = some (sttO k s xk xn t xv bv ev):=by
 simp only [World.setCell,Array.getElem?_modify,if_true,h,Option.map_some]
 rfl
theorem stt_set5 (h:w.heap[M]? = some (sttO k s xk xn xs xv bv ev)) (t:Value):(w.setCell ⟨M,5,none⟩ t).heap[M]? = some (sttO k s xk xn xs t bv ev):=by
 simp only [World.setCell,Array.getElem?_modify,if_true,h,Option.map_some]
 rfl
theorem stt_set6 (h:w.heap[M]? = some (sttO k s xk xn xs xv bv ev)) (t:Value):(w.setCell ⟨M,6,none⟩ t).heap[M]? = some (sttO k s xk xn xs xv t ev):=by
 simp only [World.setCell,Array.getElem?_modify,if_true,h,Option.map_some]
 rfl
theorem stt_set7 (h:w.heap[M]? = some (sttO k s xk xn xs xv bv ev)) (t:Value):(w.setCell ⟨M,7,none⟩ t).heap[M]? = some (sttO k s xk xn xs xv bv t):=by
 simp only [World.setCell,Array.getElem?_modify,if_true,h,Option.map_some]
 rfl
end
theorem TAt.setX {wr W:World} {S:Obj} {k xk xn:Int} {s xs:ByteArray} {xv bv ev:Value} (h:TAt wr W S (sttO k s xk xn xs xv bv ev)) (y:Sy.Ex) (a:Option Addr) (c:Nat) :
  TAt wr ((((W.setCell ⟨wr.heap.size + 1,2,none⟩ (.int .i64 y.kind)).setCell ⟨wr.heap.size + 1,3,none⟩ (.int .i64 y.n)).setCell ⟨wr.heap.size + 1,4,none⟩ (.string y.name)).setCell ⟨wr.heap.size + 1,5,none⟩ (.slice a y.kids.length c)) S (sttO k s y.kind y.n y.name (.slice a y.kids.length c) bv ev):=by
 have h2:=h.set (stt_set2 h.tb y.kind)
 have h3:=h2.set (stt_set3 h2.tb y.n)
 have h4:=h3.set (stt_set4 h3.tb y.name)
 exact h4.set (stt_set5 h4.tb (.slice a y.kids.length c))
theorem far_two {W:World} {P b o:Nat} {u:Value} (h:b ≠ P):(W.setCell ⟨P,o,none⟩ u).heap[b]? = W.heap[b]?:=Below.heap_setCell _ _ _ _ h
end Go.Proofs.YtpnljpdpobbiiaaGreatDoor
