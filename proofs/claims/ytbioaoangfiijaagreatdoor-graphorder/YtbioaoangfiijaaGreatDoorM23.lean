/- Plainly: the talks of a program that fits may be gathered. -/
import Derived.Test.YtbioaoangfiijaaGreatDoorM22
set_option maxRecDepth 100000
namespace Go.Proofs.YtbioaoangfiijaaGreatDoor
open Go.RowKit
namespace Sm
open Sy
theorem each_at {α:Type} {f:Df → Except Int α}:∀ {l:List Df} {i:Nat} {xs:List α},each f l i = .ok xs → xs.length = l.length ∧ ∀ (k:Nat) (d:Df),l[k]? = some d → ∃ x,xs[k]? = some x ∧ f d = .ok x
 | [],i,xs,h => by
  simp [each] at h
  subst h
  exact ⟨rfl,fun k d hd => by simp at hd⟩
 | d :: l,i,xs,h => by
  rw [each] at h
  cases hf:f d with
  | error e => rw [hf] at h; cases h
  | ok x =>
   rw [hf] at h
   dsimp only at h
   cases he:each f l (i + 1) with
   | error e => rw [he] at h; cases h
   | ok ys =>
    rw [he] at h
    cases h
    obtain ⟨h1,h2⟩:=each_at he
    refine ⟨by simp [h1],fun k d' hd => ?_⟩
    cases k with
    | zero => simp at hd; subst hd; exact ⟨x,by simp,hf⟩
    | succ k => simpa using h2 k d' (by simpa using hd)
theorem talks_ok {l:List Df} {ts:List Tk} (hF:Fit l) (h:each (bodyT l) l 0 = .ok ts):ts.length = l.length ∧ ∀ n,n < l.length → Tl l.length (tkAt ts n):=by
 obtain ⟨h1,h2⟩:=each_at h
 refine ⟨h1,fun n hn => ?_⟩
 obtain ⟨t,ht,hb⟩:=h2 n l[n] (List.getElem?_eq_getElem hn)
 have e:tkAt ts n = t:=by simp [tkAt,ht]
 rw [e]
 by_cases hk:l[n].kind = 1
 ·unfold bodyT at hb
  rw [if_pos hk] at hb
  cases hb
  exact ⟨by simp [Tk.none],by simp [Tk.none],by simp [Tk.none],fun c hc => by simp [Tk.none] at hc⟩
 ·obtain ⟨_,n0,m,hn0,hm⟩:=hF.forms n l[n] (List.getElem?_eq_getElem hn) hk
  have hm2:=Sy.bodyOf_le (Sy.stW_le 39) hn0 hm
  have hle:=inner_le (stat_le l l[n] 39) hm ⟨Nat.zero_le _,Nat.zero_le _,Nat.zero_le _⟩ ((bodyT_of hk).symm.trans hb)
  exact ⟨by have:=hle.1; omega,by have:=hle.2.1; omega,by have:=hle.2.2; omega,bodyT_ok hb⟩
end Sm
namespace Sm
abbrev Ow3:=ByteArray × ByteArray × ByteArray
abbrev owC (o:Ow3):List Value:=[.string o.1,.string o.2.1,.string o.2.2]
abbrev ows (l:List Ow3):List Value:=l.flatMap owC
theorem ows_more (l:List Ow3) (o:Ow3):ows (l ++ [o]) = ows l ++ owC o:=by simp [ows]
theorem three_news (W:World) (u0 u1 u2:Value) (t:TypeId):∀ j u',[u0,u1,u2][j]? = some u' → (W.alloc (.cells #[u0,u1,u2] t)).cell? ((⟨W.heap.size,0,none⟩:Addr).add j) = some u'
 | 0,u',h => by simp at h; subst h; simp [Addr.add]
 | 1,u',h => by simp at h; subst h; simp [Addr.add]
 | 2,u',h => by simp at h; subst h; simp [Addr.add]
 | j + 3,u',h => by simp at h
theorem Tryz.info54:(Tryz.prog.info? 54).map (fun i => (i.zero,i.size,i.bytes)) = some (some (.agg #[.string ⟨#[]⟩,.string ⟨#[]⟩,.string ⟨#[]⟩]),3,48):=by kernel_rfl
theorem step_append_ow {w:World} {ops:Array Oper} {o:Oper} {a:Act} {K:Act → World → Prop} {Q:Exit → Act → World → Prop} {F:Prop} (hgd:o.guard = none) (s x:Operand)
  (ho:o.op = .call { callee:=.builtin .append,args:=#[s,x],argTypes:=#[50,50] }) (base:Nat) (v:Value) (os:List Ow3) (q:Ow3) (hs:a.eval s = v) (hown:w.ownsRow base 54 3 v os.length (ows os)) (ad:Addr) (hx:a.eval x = .slice (some ad) 1 1) (hnews:∀ j u,(owC q)[j]? = some u → w.cell? (ad.add j) = some u) (hn:os.length ≤ 1000000) (hbase:base ≤ w.heap.size)
  (h:∀ v' w',w'.ownsRow base 54 3 v' (os ++ [q]).length (ows (os ++ [q])) → w.grownBy w' v.ownBlock → K (a.put o.dst v') w'):if Region.wanted o (yielded ops a.tmps) = true then o.wp Tryz.prog a w K Q else F:=by
 simp only [Region.wanted,hgd,if_true]
 obtain ⟨i0,hi,hz0,hz1,hz2⟩:=info_parts Tryz.info54
 obtain ⟨v',w',hr,h2,h3,_⟩:=run_append_where (P:=Tryz.prog) w base 50 o.type 54 i0 _ 3 48 Tryz.underlying50 hi hz0 hz1 hz2 rfl (by decide) v os.length (ows os) hown ad 1 1 (owC q) rfl hnews (fun u hu => by simp [owC] at hu; rcases hu with rfl | rfl | rfl <;> rfl) (by decide) (by unfold maxLen; omega) (by omega) hbase
 unfold Oper.wp
 simp [execOp,ho,resolve,invoke,builtin,hs,hx,hr,Result.andThen]
 refine h v' w' ?_ h3
 rw [ows_more,show (os ++ [q]).length = os.length + 1 by simp]
 exact h2
end Sm
end Go.Proofs.YtbioaoangfiijaaGreatDoor
