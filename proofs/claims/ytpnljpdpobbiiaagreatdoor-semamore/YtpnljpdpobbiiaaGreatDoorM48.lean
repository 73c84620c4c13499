/- Plainly: a box more,of a new name,leaves all else as it was. -/
import Derived.Test.YtpnljpdpobbiiaaGreatDoorM46
namespace Go.Proofs.YtpnljpdpobbiiaaGreatDoor
open Go.RowKit
namespace Sm
open Sy
/-! Whose numbers are told: definitions. -/
def Lt (l:List Df) (t:Tk):Prop:=(∀ n ∈ t.sends,n < l.length) ∧ ∀ n ∈ t.recvs,n < l.length
def Gd {α:Type} (l:List Df) (r:Except Int α) (f:α → Tk):Prop:=∀ x,r = .ok x → Lt l (f x)
section
variable {l:List Df} {me:Df}
theorem Gd.ok {α:Type} {f:α → Tk} {x:α} (h:Lt l (f x)):Gd l (.ok x) f:=fun y hy => by cases hy; exact h
theorem Gd.err {α:Type} {f:α → Tk} {e:Int}:Gd l (.error e:Except Int α) f:=fun y hy => by cases hy
theorem Gd.next {α β:Type} {f:β → Tk} {r:Except Int α} {g:α → Except Int β} (h:∀ x,r = .ok x → Gd l (g x) f):Gd l (andThen r g) f:=by
 cases hr:r with
 | error e => exact fun y hy => by cases hy
 | ok x => exact h x hr
theorem Gd.ite {α:Type} {f:α → Tk} {p:Prop} [Decidable p] {a b:Except Int α} (h:Gd l a f) (k:Gd l b f):Gd l (if p then a else b) f:=by split <;> assumption
theorem Lt.recv {t:Tk} (h:Lt l t) {b:Nat} (hb:b < l.length):Lt l ⟨t.sends,t.recvs ++ [b],t.calls⟩:=⟨h.1,fun n hn => by
 rcases List.mem_append.1 hn with h1 | h1
 ·exact h.2 n h1
 ·simp at h1; omega⟩
theorem Lt.send {t:Tk} (h:Lt l t) {b:Nat} (hb:b < l.length):Lt l ⟨t.sends ++ [b],t.recvs,t.calls⟩:=⟨fun n hn => by
 rcases List.mem_append.1 hn with h1 | h1
 ·exact h.1 n h1
 ·simp at h1; omega,h.2⟩
theorem Lt.call {t:Tk} (h:Lt l t) (c:List Nat):Lt l ⟨t.sends,t.recvs,c⟩:=h
def ExG (l:List Df) (ex:Ex → Tk → Except Int (Ty × Tk)):Prop:=∀ x t,Lt l t → Gd l (ex x t) Prod.snd
variable {ex:Ex → Tk → Except Int (Ty × Tk)}
theorem must_gd (h:ExG l ex) (y:Ty):∀ (ks:List Ex) (t:Tk),Lt l t → Gd l (must ex y ks t) id
 | [],_,ht => .ok ht
 | x :: ks,t,ht => .next fun p hp => .ite (must_gd h y ks p.2 (h x t ht p hp)) .err
theorem args_gd (h:ExG l ex):∀ (ps:List Pm) (ks:List Ex) (t:Tk),Lt l t → Gd l (args ex ps ks t) id
 | [],_,_,ht => .ok ht
 | _ :: ps,_,_,ht => .next fun t1 h1 => args_gd h ps _ t1 (must_gd h _ _ _ ht t1 h1)
theorem call_gd (h:ExG l ex) (k:Int) (x:Ex) (t:Tk) (ht:Lt l t):Gd l (call l ex k x t) Prod.snd :=
 .next fun _ _ => .ite .err (.next fun t1 h1 => .ok (args_gd h _ _ _ (ht.call _) t1 h1))
theorem started_gd (h:ExG l ex) (x:Ex) (t:Tk) (ht:Lt l t):Gd l (started l ex x t) Prod.snd :=
 .next fun p hp => .ite .err (.next fun _ _ => .ok (h x t ht p hp))
theorem spoken_gd (h:ExG l ex) (x:Ex) (t:Tk) (ht:Lt l t):Gd l (spoken l me ex x t) Prod.snd :=
 .ite (.next fun p hp => .ok (call_gd h _ _ _ ht p hp)) (.ite (.next fun p hp => .ok (call_gd h _ _ _ ht p hp)) (.ite (.next fun _ hb => .ok (ht.recv (want_lt hb)))
  (.ite (.next fun _ _ => .next fun t1 h1 => .ok (must_gd h _ _ _ ht t1 h1)) (.next fun g hg => .next fun t1 h1 => .ok (must_gd h _ _ _ (started_gd h _ _ ht g hg) t1 h1)))))
theorem expr_gd (v:Vars):∀ d,ExG l (expr l me v d)
 | 0 => fun _ _ _ => .err
 | d + 1 => fun x t ht => by
  have h:=expr_gd v d
  rw [expr]
  exact .ite (.ok ht) (.ite (.ok ht) (.ite (.next fun _ _ => .ok ht) (.ite (.next fun t1 h1 => .ok (must_gd h _ _ _ ht t1 h1)) (.ite (.next fun t1 h1 => .ok (must_gd h _ _ _ ht t1 h1)) (.ite (.next fun t1 h1 => .ok (must_gd h _ _ _ ht t1 h1))
   (.ite (.next fun a ha => .next fun b hb => .next fun _ _ => .ite (.ok (h _ _ (h _ _ ht a ha) b hb)) .err) (.ite (.next fun p hp => .ok (started_gd h _ _ ht p hp)) (spoken_gd h _ _ ht))))))))
def StG (l:List Df) (st:St → Vars → Tk → Except Int (Vars × Tk)):Prop:=∀ s v t,Lt l t → Gd l (st s v t) Prod.snd
variable {st:St → Vars → Tk → Except Int (Vars × Tk)}
theorem block_gd (h:StG l st):∀ (b:List St) (v:Vars) (t:Tk),Lt l t → Gd l (block st b v t) Prod.snd
 | [],_,_,ht => .ok ht
 | s :: b,v,t,ht => .next fun p hp => block_gd h b p.1 p.2 (h s v t ht p hp)
theorem inner_gd (h:StG l st) (b:List St) (v:Vars) (t:Tk) (ht:Lt l t):Gd l (inner st b v t) id:=.next fun p hp => .ok (block_gd h b v t ht p hp)
theorem stat_gd:∀ d,StG l (stat l me d)
 | 0 => fun _ _ _ _ => .err
 | d + 1 => fun s v t ht => by
  have h:=stat_gd d
  have hx:=expr_gd (l:=l) (me:=me) v d
  rw [stat]
  exact .ite (.next fun p hp => .ite .err (.ok (hx _ _ ht p hp))) (.ite (.next fun _ _ => .next fun t1 h1 => .ok (must_gd hx _ _ _ ht t1 h1))
   (.ite (.next fun t1 h1 => .next fun t2 h2 => .next fun t3 h3 => .ok (inner_gd h _ _ _ (inner_gd h _ _ _ (must_gd hx _ _ _ ht t1 h1) t2 h2) t3 h3)) (.ite (.next fun t1 h1 => .next fun t2 h2 => .ok (inner_gd h _ _ _ (must_gd hx _ _ _ ht t1 h1) t2 h2))
   (.ite (.next fun _ _ => .next fun t1 h1 => .ok (must_gd hx _ _ _ ht t1 h1)) (.ite (.next fun _ _ => .ok ht) (.ite (.next fun _ hb => .next fun t1 h1 => .ok (must_gd hx _ _ _ (ht.send (want_lt hb)) t1 h1))
   (.ite (.next fun p hp => .next fun _ _ => .ok (hx _ _ ht p hp)) (.next fun p hp => .ok (hx _ _ ht p hp)))))))))
end
theorem bodyT_gd (l:List Df) (me:Df):Gd l (bodyT l me) id :=
 .ite (.ok ⟨fun n hn => by simp [Tk.none] at hn,fun n hn => by simp [Tk.none] at hn⟩) (inner_gd (stat_gd 39) _ _ _ ⟨fun n hn => by simp [Tk.none] at hn,fun n hn => by simp [Tk.none] at hn⟩)
/-! What is right stays right. -/
def Le {α:Type} (r r':Except Int α):Prop:=∀ x,r = .ok x → r' = .ok x
def Up (l m:List Df):Prop:=∀ k s i,want l k s = .ok i → want m k s = .ok i ∧ defAt m i = defAt l i
section
variable {l m:List Df} {me:Df}
theorem Le.refl {α:Type} (r:Except Int α):Le r r:=fun _ h => h
theorem Le.next {α β:Type} {r r':Except Int α} {f f':α → Except Int β} (h:Le r r') (k:∀ x,r = .ok x → Le (f x) (f' x)):Le (andThen r f) (andThen r' f'):=by
 cases hr:r with
 | error e => exact fun y hy => by cases hy
 | ok x => rw [h x hr]; exact k x hr
theorem Le.ite {α:Type} {p:Prop} [Decidable p] {a b a' b':Except Int α} (h:Le a a') (k:Le b b'):Le (if p then a else b) (if p then a' else b'):=by split <;> assumption
theorem want_le (hu:Up l m) (k:Int) (s:ByteArray):Le (want l k s) (want m k s):=fun i h => (hu k s i h).1
def ExL (ex ex':Ex → Tk → Except Int (Ty × Tk)):Prop:=∀ x t,Le (ex x t) (ex' x t)
variable {ex ex':Ex → Tk → Except Int (Ty × Tk)}
theorem must_up (h:ExL ex ex') (y:Ty):∀ (ks:List Ex) (t:Tk),Le (must ex y ks t) (must ex' y ks t)
 | [],_ => .refl _
 | x :: ks,t => .next (h x t) fun p _ => .ite (must_up h y ks p.2) (.refl _)
theorem args_up (h:ExL ex ex'):∀ (ps:List Pm) (ks:List Ex) (t:Tk),Le (args ex ps ks t) (args ex' ps ks t)
 | [],_,_ => .refl _
 | _ :: ps,_,_ => .next (must_up h _ _ _) fun t _ => args_up h ps _ t
theorem call_up (hu:Up l m) (h:ExL ex ex') (k:Int) (x:Ex) (t:Tk):Le (call l ex k x t) (call m ex' k x t) :=
 .next (want_le hu _ _) fun n hn => by
  rw [(hu _ _ _ hn).2]
  exact .ite (.refl _) (.next (args_up h _ _ _) fun _ _ => .refl _)
theorem started_up (hu:Up l m) (h:ExL ex ex') (x:Ex) (t:Tk):Le (started l ex x t) (started m ex' x t) :=
 .next (h x t) fun _ _ => .ite (.refl _) (.next (want_le hu _ _) fun n hn => by rw [(hu _ _ _ hn).2]; exact .refl _)
theorem spoken_up (hu:Up l m) (h:ExL ex ex') (x:Ex) (t:Tk):Le (spoken l me ex x t) (spoken m me ex' x t) :=
 .ite (.next (call_up hu h _ _ _) fun _ _ => .refl _) (.ite (.next (call_up hu h _ _ _) fun _ _ => .refl _) (.ite (.next (want_le hu _ _) fun n hn => by rw [(hu _ _ _ hn).2]; exact .refl _)
  (.ite (.next (.refl _) fun _ _ => .next (must_up h _ _ _) fun _ _ => .refl _) (.next (started_up hu h _ _) fun _ _ => .next (must_up h _ _ _) fun _ _ => .refl _))))
theorem expr_up (hu:Up l m) (v:Vars):∀ d,ExL (expr l me v d) (expr m me v d)
 | 0 => fun _ _ => .refl _
 | d + 1 => fun x t => by
  have h:=expr_up hu v d
  rw [expr,expr]
  exact .ite (.refl _) (.ite (.refl _) (.ite (.refl _) (.ite (.next (must_up h _ _ _) fun _ _ => .refl _) (.ite (.next (must_up h _ _ _) fun _ _ => .refl _) (.ite (.next (must_up h _ _ _) fun _ _ => .refl _)
   (.ite (.next (h _ _) fun _ _ => .next (h _ _) fun _ _ => .refl _) (.ite (.next (started_up hu h _ _) fun _ _ => .refl _) (spoken_up hu h _ _))))))))
def StL (st st':St → Vars → Tk → Except Int (Vars × Tk)):Prop:=∀ s v t,Le (st s v t) (st' s v t)
variable {st st':St → Vars → Tk → Except Int (Vars × Tk)}
theorem block_up (h:StL st st'):∀ (b:List St) (v:Vars) (t:Tk),Le (block st b v t) (block st' b v t)
 | [],_,_ => .refl _
 | s :: b,v,t => .next (h s v t) fun p _ => block_up h b p.1 p.2
theorem inner_up (h:StL st st') (b:List St) (v:Vars) (t:Tk):Le (inner st b v t) (inner st' b v t):=.next (block_up h b v t) fun _ _ => .refl _
theorem stat_up (hu:Up l m):∀ d,StL (stat l me d) (stat m me d)
 | 0 => fun _ _ _ => .refl _
 | d + 1 => fun s v t => by
  have h:=stat_up hu d
  have hx:=expr_up (me:=me) hu v d
  rw [stat,stat]
  exact .ite (.next (hx _ _) fun _ _ => .refl _) (.ite (.next (.refl _) fun _ _ => .next (must_up hx _ _ _) fun _ _ => .refl _)
   (.ite (.next (must_up hx _ _ _) fun _ _ => .next (inner_up h _ _ _) fun _ _ => .next (inner_up h _ _ _) fun _ _ => .refl _) (.ite (.next (must_up hx _ _ _) fun _ _ => .next (inner_up h _ _ _) fun _ _ => .refl _)
   (.ite (.next (.refl _) fun _ _ => .next (must_up hx _ _ _) fun _ _ => .refl _) (.ite (.refl _) (.ite (.next (want_le hu _ _) fun n hn => by rw [(hu _ _ _ hn).2]; exact .next (must_up hx _ _ _) fun _ _ => .refl _)
   (.ite (.next (hx _ _) fun _ _ => .refl _) (.next (hx _ _) fun _ _ => .refl _))))))))
theorem bodyT_up (hu:Up l m) (me:Df):Le (bodyT l me) (bodyT m me):=.ite (.refl _) (inner_up (stat_up hu 39) _ _ _)
theorem params_up (hu:Up l m):∀ (ps:List Pm) (seen:List ByteArray),Le (params l ps seen) (params m ps seen)
 | [],_ => .refl _
 | _ :: ps,_ => .ite (.refl _) (.ite (.next (want_le hu _ _) fun _ _ => params_up hu ps _) (params_up hu ps _))
theorem head_up (hu:Up l m) (d:Df):Le (head l d) (head m d) :=
 .ite (.refl _) (.ite (.next (params_up hu _ _) fun _ _ => .refl _) (.ite (.next (params_up hu _ _) fun _ _ => .refl _) (.refl _)))
end
end Sm
namespace Sm
open Sy
def bx (name:ByteArray):Df:=⟨1,name,⟨1,⟨#[]⟩⟩,⟨0,⟨#[]⟩⟩,1,[],[]⟩
theorem defsW_app {r:List Df}:∀ (l:List Df) (i n:Nat),(defsW l i n).1 = 0 → ∃ n',defsW (l ++ r) i n = defsW r (i + l.length) n'
 | [],i,n,_ => ⟨n,by simp⟩
 | d :: l,i,n,h => by
  rw [List.cons_append,defsW]
  rw [defsW] at h
  cases hw:dfW d n with
  | error e => rw [hw] at h; exact absurd h (dfW_ne hw)
  | ok m =>
   rw [hw] at h
   obtain ⟨n',hn⟩:=defsW_app (r:=r) l (i + 1) m h
   exact ⟨n',by dsimp only; rw [hn,List.length_cons]; congr 1; omega⟩
theorem bx_head (name:ByteArray) (n:Nat):dfHead (bx name) n = if 2000 < n + 1 then 4 else if nm name = false then 7 else 0:=by
 unfold dfHead bx nodeW tyW
 by_cases h:2000 < n + 1
 ·simp [h]
 ·cases hn:nm name <;> simp [h]
theorem wrong_more {l:List Df} {name:ByteArray} (h:(wrongL l).1 = 0):(wrongL (l ++ [bx name])).1 = 0 ∨ (wrongL (l ++ [bx name])).1 = 5 ∨ (wrongL (l ++ [bx name])).1 = 4 ∨ (wrongL (l ++ [bx name])).1 = 7:=by
 unfold wrongL at h ⊢
 split at h
 ·cases h
 ·split
  ·exact .inr (.inl rfl)
  ·obtain ⟨n,hn⟩:=defsW_app (r:=[bx name]) l 0 0 h
   rw [hn,defsW]
   unfold dfW
   rw [bx_head]
   by_cases h1:2000 < n + 1
   ·rw [if_pos h1]; exact .inr (.inr (.inl rfl))
   ·rw [if_neg h1]
    cases hm:nm name with
    | false => exact .inr (.inr (.inr rfl))
    | true => exact .inl rfl
theorem names_seven:∀ (l:List Df) (i:Nat) (seen:List ByteArray) (e:Int × Nat),names l i seen = some e → e.1 = 7
 | [],_,_,e,h => by cases h
 | d :: l,i,seen,e,h => by
  rw [names] at h
  split at h
  ·cases h; rfl
  ·exact names_seven l _ _ e h
theorem prog_more {l:List Df} {b:Df} (h:prog l = none):(∃ e,prog (l ++ [b]) = some e ∧ e.1 = 7) ∨ (prog (l ++ [b]) = none ∧ ((l ++ [b]).map (·.name)).Nodup):=by
 have ha:(l ++ [b]).any (fun d => d.kind == 4) = true:=by
  unfold prog at h
  split at h
  ·cases h
  ·split at h
   ·rename_i h4; rw [List.any_append,h4]; rfl
   ·cases h
 unfold prog
 cases hn:names (l ++ [b]) 0 [] with
 | some e => exact .inl ⟨e,rfl,names_seven _ _ _ _ hn⟩
 | none => exact .inr ⟨by dsimp only; rw [if_pos ha],(names_open hn).2⟩
theorem find_congr {α:Type} {p q:α → Bool}:∀ {l:List α},(∀ x ∈ l,p x = q x) → l.find? p = l.find? q
 | [],_ => rfl
 | a :: l,h => by
  rw [List.find?_cons,List.find?_cons,h a List.mem_cons_self,find_congr fun x hx => h x (List.mem_cons_of_mem _ hx)]
section
variable {l:List Df} {b:Df}
theorem at_more {i:Nat} (h:i < l.length):defAt (l ++ [b]) i = defAt l i:=by simp [defAt,List.getElem?_append_left h]
theorem at_new:defAt (l ++ [b]) l.length = b:=by simp [defAt]
theorem up_more (hn:((l ++ [b]).map (·.name)).Nodup):Up l (l ++ [b]):=by
 intro k s i h
 have hi:=want_lt h
 unfold want at h ⊢
 cases hq:numOf l s with
 | none => rw [hq] at h; cases h
 | some j =>
  rw [hq] at h
  dsimp only at h
  have hj:j = i:=by
   split at h
   ·cases h; rfl
   ·cases h
  subst hj
  have hs:(l[j]?).map (·.name) = some s:=by
   unfold numOf at hq
   have:=List.find?_some hq
   simpa using this
  have hne:b.name ≠ s:=by
   rintro rfl
   rw [List.map_append,List.nodup_append] at hn
   obtain ⟨d,hd,e⟩:=Option.map_eq_some_iff.1 hs
   exact hn.2.2 d.name (List.mem_map.2 ⟨d,List.mem_of_getElem? hd,rfl⟩) b.name (by simp) e
  have hm:numOf (l ++ [b]) s = some j:=by
   unfold numOf at hq ⊢
   rw [List.length_append,List.length_singleton,List.range_succ,List.reverse_append,List.reverse_singleton,List.singleton_append,List.find?_cons]
   have h1:decide ((((l ++ [b])[l.length]?).map (·.name)) = some s) = false:=by simp [hne]
   rw [h1]
   dsimp only
   rw [← hq]
   exact find_congr fun x hx => by
    have hx:x < l.length:=by simpa using hx
    rw [List.getElem?_append_left hx]
  rw [hm]
  dsimp only
  rw [at_more hi]
  exact ⟨h,rfl⟩
theorem each_up {α:Type} {f f':Df → Except Int α}:∀ {l:List Df} {i:Nat} {xs:List α},(∀ d,Le (f d) (f' d)) → each f l i = .ok xs → each f' l i = .ok xs
 | [],_,_,_,h => h
 | d :: l,i,xs,hf,h => by
  rw [each] at h ⊢
  cases hd:f d with
  | error e => rw [hd] at h; cases h
  | ok x =>
   rw [hd] at h
   dsimp only at h
   rw [hf d x hd]
   dsimp only
   cases hl:each f l (i + 1) with
   | error e => rw [hl] at h; cases h
   | ok ys => rw [hl] at h; rw [each_up hf hl]; exact h
theorem each_snoc {α:Type} {f:Df → Except Int α} {x:α} (hb:f b = .ok x):∀ {l:List Df} {i:Nat} {xs:List α},each f l i = .ok xs → each f (l ++ [b]) i = .ok (xs ++ [x])
 | [],i,xs,h => by
  cases h
  show each f [b] i = _
  rw [each,hb]
  rfl
 | d :: l,i,xs,h => by
  rw [List.cons_append,each]
  rw [each] at h
  cases hd:f d with
  | error e => rw [hd] at h; cases h
  | ok y =>
   rw [hd] at h
   dsimp only at h ⊢
   cases hl:each f l (i + 1) with
   | error e => rw [hl] at h; cases h
   | ok ys => rw [hl] at h; cases h; rw [each_snoc hb hl]; rfl
end
/-! What a task comes to. -/
section
variable {ts:List Tk} {x:Tk}
theorem tk_more {n:Nat} (h:n < ts.length):tkAt (ts ++ [x]) n = tkAt ts n:=by simp [tkAt,List.getElem?_append_left h]
theorem fold_lt {L:Nat}:∀ (cs out:List Nat),(∀ n ∈ cs,n < L) → (∀ n ∈ out,n < L) → ∀ n ∈ cs.foldl stp out,n < L
 | [],_,_,ho => ho
 | c :: cs,out,hc,ho => fold_lt cs _ (fun n hn => hc n (List.mem_cons_of_mem _ hn)) (fun n hn => by
  unfold stp at hn
  split at hn
  ·exact ho n hn
  ·rcases List.mem_append.1 hn with h | h
   ·exact ho n h
   ·simp at h; subst h; exact hc n List.mem_cons_self)
theorem fold_nodup:∀ (cs out:List Nat),out.Nodup → (cs.foldl stp out).Nodup
 | [],_,h => h
 | c :: cs,out,h => fold_nodup cs _ (by
  unfold stp
  split
  ·exact h
  ·rename_i hc
   rw [List.nodup_append]
   exact ⟨h,by simp,fun a ha b hb e => hc (by simp at hb; rw [← hb,← e]; exact ha)⟩)
theorem reach_same (hc:∀ n,n < ts.length → ∀ c ∈ (tkAt ts n).calls,c < ts.length):∀ (f i:Nat) (out:List Nat),(∀ n ∈ out,n < ts.length) → reach (ts ++ [x]) f i out = reach ts f i out
 | 0,_,_,_ => rfl
 | f + 1,i,out,ho => by
  cases h:out[i]? with
  | none => rw [reach_end _ h,reach_end _ h]
  | some n =>
   have hn:=ho n (List.mem_of_getElem? h)
   rw [reach_step _ h,reach_step _ h,tk_more hn]
   exact reach_same hc f (i + 1) _ (fold_lt _ _ (hc n hn) ho)
theorem reach_more (hc:∀ n,n < ts.length → ∀ c ∈ (tkAt ts n).calls,c < ts.length):∀ (f i:Nat) (out:List Nat),ts.length ≤ i + f → out.Nodup → (∀ n ∈ out,n < ts.length) → reach ts (f + 1) i out = reach ts f i out
 | 0,i,out,hf,hn,ho => by
  have h:out[i]? = none:=by
   have:=nodup_len ts.length out hn ho
   exact List.getElem?_eq_none (by omega)
  rw [reach_end _ h,reach_end _ h]
 | f + 1,i,out,hf,hn,ho => by
  cases h:out[i]? with
  | none => rw [reach_end _ h,reach_end _ h]
  | some n =>
   rw [reach_step _ h,reach_step _ h]
   have hl:=ho n (List.mem_of_getElem? h)
   exact reach_more hc f (i + 1) _ (by omega) (fold_nodup _ _ hn) (fold_lt _ _ (hc n hl) ho)
theorem reach_lt (hc:∀ n,n < ts.length → ∀ c ∈ (tkAt ts n).calls,c < ts.length):∀ (f i:Nat) (out:List Nat),(∀ n ∈ out,n < ts.length) → ∀ n ∈ reach ts f i out,n < ts.length
 | 0,_,_,ho => ho
 | f + 1,i,out,ho => by
  cases h:out[i]? with
  | none => rw [reach_end _ h]; exact ho
  | some n =>
   rw [reach_step _ h]
   have hl:=ho n (List.mem_of_getElem? h)
   exact reach_lt hc f (i + 1) _ (fold_lt _ _ (hc n hl) ho)
theorem fm_congr {f g:Nat → List Nat}:∀ {l:List Nat},(∀ n ∈ l,f n = g n) → l.flatMap f = l.flatMap g
 | [],_ => rfl
 | a :: l,h => by rw [List.flatMap_cons,List.flatMap_cons,h a List.mem_cons_self,fm_congr fun n hn => h n (List.mem_cons_of_mem _ hn)]
theorem reached_more (hc:∀ n,n < ts.length → ∀ c ∈ (tkAt ts n).calls,c < ts.length) {t:Nat} (ht:t < ts.length):reached (ts ++ [x]) t = reached ts t:=by
 have ho:∀ n ∈ [t],n < ts.length:=fun n hn => by simp at hn; omega
 have e:reach (ts ++ [x]) ((ts ++ [x]).length + 1) 0 [t] = reach ts (ts.length + 1) 0 [t]:=by
  rw [reach_same hc _ _ _ ho,List.length_append,List.length_singleton]
  exact reach_more hc _ _ _ (by omega) (by simp) ho
 have hl:=reach_lt hc (ts.length + 1) 0 [t] ho
 unfold reached
 dsimp only
 rw [e]
 congr 1
 ·exact fm_congr fun n hn => by rw [show ((ts ++ [x])[n]?).getD Tk.none = tkAt (ts ++ [x]) n from rfl,tk_more (hl n hn)]
 ·exact fm_congr fun n hn => by rw [show ((ts ++ [x])[n]?).getD Tk.none = tkAt (ts ++ [x]) n from rfl,tk_more (hl n hn)]
theorem reached_lt {L:Nat} (hs:∀ n,n < ts.length → (∀ c ∈ (tkAt ts n).sends,c < L) ∧ ∀ c ∈ (tkAt ts n).recvs,c < L) (hc:∀ n,n < ts.length → ∀ c ∈ (tkAt ts n).calls,c < ts.length) {t:Nat} (ht:t < ts.length):(∀ c ∈ (reached ts t).sends,c < L) ∧ ∀ c ∈ (reached ts t).recvs,c < L:=by
 have hl:=reach_lt hc (ts.length + 1) 0 [t] (fun n hn => by simp at hn; omega)
 refine ⟨fun c hcm => ?_,fun c hcm => ?_⟩ <;> (unfold reached at hcm; dsimp only at hcm; obtain ⟨n,hn,hx⟩:=List.mem_flatMap.1 hcm)
 ·exact (hs n (hl n hn)).1 c hx
 ·exact (hs n (hl n hn)).2 c hx
end
end Sm
end Go.Proofs.YtpnljpdpobbiiaaGreatDoor
