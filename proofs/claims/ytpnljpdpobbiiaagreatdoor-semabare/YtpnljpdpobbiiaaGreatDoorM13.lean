/- The calls that our machine takes as a whole: strings.Clone,throw.Caught,strings.IndexByte. -/
import Derived.Test.YtpnljpdpobbiiaaGreatDoorM12
import Derived.WalkSpells
import Derived.WalkLawsBesides
import Derived.Deep.QuietTactic
import Derived.BigQuiet
import Derived.Recover
import Derived.KernelRfl
set_option maxRecDepth 100000
set_option maxHeartbeats 400000
namespace Go.Proofs.YtpnljpdpobbiiaaGreatDoor
open Go.RowKit
namespace Xe
theorem Post.grown {φ:Ph} {s:S} {w w':World} (h:Stt φ s w) (hb:Below w.heap.size w w'):Post φ s w φ s w':=by
 refine ⟨⟨⟨fun x o hx => (h.rel.obj x o hx).mono (Sub.refl φ) fun g hg => hb.block g.b (h.rel.bnd x g hg),h.rel.inj,fun x g hx => Nat.lt_of_lt_of_le (h.rel.bnd x g hx) hb.size,h.rel.glo⟩,h.fr⟩,⟨Sub.refl φ,hb.size,fun x g h0 h1 => ?_,fun b hb' _ => hb.block b hb',⟨hb.os,hb.tape,hb.output⟩⟩,Nat.le_refl _,fun _ h0 h1 => (h1 h0).elim,fun _ hx => .inl hx⟩
 rw [h0] at h1; cases h1
theorem idxB_eq (c:Nat) (hc:c ≤ 255):∀ (l:List UInt8) (i:Nat),idxB c l i = if Lib.indexByte l c.toUInt8 = -1 then -1 else Lib.indexByte l c.toUInt8 + i
 | [],i => rfl
 | b :: l,i => by
  have ih:=idxB_eq c hc l (i + 1)
  have hbc:Nat.beq b.toNat c = (b == c.toUInt8):=by
   rw [beq_dec,Bool.eq_iff_iff,beq_iff_eq,decide_eq_true_eq]
   constructor
   ·intro h
    apply UInt8.toNat_inj.1
    rw [h]
    simp [Nat.toUInt8]
    omega
   ·rintro rfl
    simp [Nat.toUInt8]
    omega
  have hpos:∀ l:List UInt8,-1 ≤ Lib.indexByte l c.toUInt8:=by
   intro l
   induction l with
   | nil => simp [Lib.indexByte]
   | cons b l ih =>
    unfold Lib.indexByte
    split
    ·omega
    ·split
     ·omega
     ·omega
  have hp:=hpos l
  have e1:idxB c (b :: l) i = match Nat.beq b.toNat c with | true => .ofNat i | false => idxB c l (Nat.succ i):=rfl
  rw [e1,hbc]
  unfold Lib.indexByte
  cases hb:(b == c.toUInt8) with
  | true => simp
  | false =>
   simp only [Bool.false_eq_true,if_false]
   rw [show idxB c l (Nat.succ i) = idxB c l (i + 1) from rfl,ih]
   by_cases h1:Lib.indexByte l c.toUInt8 = -1
   ·simp [h1]
   ·have hb1:(Lib.indexByte l c.toUInt8 == -1) = false:=by simpa using h1
    have h2:¬ Lib.indexByte l c.toUInt8 + 1 = -1:=by omega
    rw [if_neg h1,hb1]
    simp only [Bool.false_eq_true,if_false]
    rw [if_neg h2]
    push_cast
    omega
theorem setCell_eq {w:World} {b o:Nat} {v:Value} (h:w.cell? ⟨b,o,none⟩ = some v):w.setCell ⟨b,o,none⟩ v = w:=by
 obtain ⟨heap,tape,drawn,os,output⟩:=w
 simp only [World.setCell]
 congr 1
 apply Array.ext_getElem?
 intro k
 rw [Array.getElem?_modify]
 split
 ·rename_i e
  have e':b = k:=e
  subst e'
  simp only [World.cell?] at h
  cases hb:heap[b]? with
  | none => rfl
  | some ob =>
   rw [hb] at h
   cases ob with
   | cells cs t fr =>
    simp only [Option.map_some,Option.some.injEq]
    have h':cs[o]? = some v:=h
    congr 1
    simp only [Option.isSome_none,Bool.false_eq_true,if_false]
    apply Array.ext_getElem?
    intro j
    rw [Array.getElem?_setIfInBounds]
    split
    ·rename_i ej
     have ej':o = j:=ej
     subst ej'
     split
     ·exact h'.symm
     ·rename_i hlt
      rw [Array.getElem?_eq_none (by omega)]
    ·rfl
   | _ => first | rfl | simp at h
 ·rfl
theorem catch_none (F:Nat) (w:World) :
  CallsD Tryz.prog 28 #[.pointer (some ⟨F,0,none⟩)] .returning w fun e u' w' => e = .returned (.tuple #[]) ∧ u' = .returning ∧ w' = w:=by
 refine callsD_of_wpS Tryz.func28 rfl fun c₀ cs hu => ?_
 apply wpS_seq
 apply wpS_region
 simp [wpOpsS,go_sem,recoverD,hu,Tryz.ntmps28,Exit.thenS]
 apply wpS_seq
 apply wpS_region
 simp [wpOpsS,go_sem,Exit.thenS]
 refine wpS_cond (t:=false) (by simp [Act.eval,Array.replicate]) ?_
 simp only [Bool.false_eq_true,if_false]
 refine wpS_of_wp (wp_skip ?_)
 cases c₀
 simp_all [bodyPostS,results,Tryz.results28]
abbrev Z2:Obj:=.cells #[.int .i64 0,.int .i64 0] 27 (0,0)
theorem z2_cell {w:World} {b:Nat} (h:w.heap[b]? = some Z2) :
  w.cell? ⟨b,0,none⟩ = some (.int .i64 0) ∧ w.cell? ⟨b,1,none⟩ = some (.int .i64 0) ∧ w.frozen? ⟨b,0,none⟩ = false ∧ w.frozen? ⟨b,1,none⟩ = false:=by simp [World.cell?,World.frozen?,h]
theorem caught_none (g:FuncId) (cap:Array Value) (X:World → Prop) (w:World) (hcf:∀ w:World,(callFunc g cap).run Tryz.prog w = .ok (.enter g cap) w)
  (hw:Calls Tryz.prog g cap (w.alloc Z2) fun e w' => X w' ∧ w'.heap[w.heap.size]? = some Z2 ∧ e = .returned (.tuple #[])) :
  Calls Tryz.prog 13 #[.func (.func g) #[] cap] w fun e w' => e = .returned (.agg #[.int .i64 0,.int .i64 0]) ∧ ∃ wx,X wx ∧ wx.heap[w.heap.size]? = some Z2 ∧ w' = (wx.setCell ⟨w.heap.size,0,none⟩ (.int .i64 0)).setCell ⟨w.heap.size,1,none⟩ (.int .i64 0):=by
 have hmf:∀ (fn:Fn) (first cap:Array Value) (w:World),(Instr.makeFunc fn first cap).run Tryz.prog w = .ok (.func fn first cap) w:=fun _ _ _ _ => rfl
 go_enter_defers Tryz.func13,Tryz.ntmps13
 go_wp2_with fail
 refine hw.mono ?_
 rintro e w1 ⟨hX,hF,rfl⟩
 obtain ⟨c0,c1,f0,f1⟩:=z2_cell hF
 have HX:Hid (X w1):=hX
 have HF:Hid (w1.heap[w.heap.size]? = some Z2):=hF
 clear hX hF hw
 go_wp2
 refine leaves_cons (f:=28) (args:=#[.pointer (some ⟨w.heap.size,0,none⟩)]) (by simp) (by simp [go_sem]) ?_
 refine (catch_none w.heap.size _).mono ?_
 rintro e u' w'' ⟨rfl,rfl,rfl⟩
 show Leaves _ _ _ _ [] .returning _
 exact ⟨.agg #[.int .i64 0,.int .i64 0],by simp [results,Tryz.results13,go_sem,c0,c1],rfl,w1,HX.out,HF.out,rfl⟩
theorem names_ok:NameOk Tryz.prog:=by
 have h:(Tryz.prog.funcs.toList.all fun fn => !(fn.name == "runtime.NumGoroutine")) = true:=by kernel_rfl
 intro f fn hf
 rw [List.all_eq_true] at h
 have:=h fn (by have:=Array.mem_of_getElem? hf; simpa using this)
 simpa using this
theorem L_sgl {α β:Type} {R:α → β → Prop} {x:α} {l:List β} (h:L R [x] l):∃ y,l = [y] ∧ R x y:=by
 cases l with
 | nil => exact h.elim
 | cons y l =>
  cases l with
  | nil => exact ⟨y,rfl,h.1⟩
  | cons z l => exact h.2.elim
theorem arr_of {α:Type} {a:Array α} {l:List α} (h:a.toList = l):a = l.toArray:=by cases a; simp at h; simp [h]
theorem sp_ok:SpOk Tryz.prog (special 54 13 116):=by
 intro call hC f args s v s' h
 unfold special at h
 rw [bB_ite,bB_ite,bB_ite,beq_dec,beq_dec,beq_dec] at h
 split at h
 ·rename_i hf
  have hf:f = 54:=by simpa using hf
  subst hf
  have h':=Option.some.inj h
  unfold spClone at h'
  split at h'
  ·rename_i b
   rw [guardB_some,ble_dec] at h'
   obtain ⟨hb,h'⟩:=h'
   cases h'
   refine ⟨rfl,⟨_,_,Tryz.func54,rfl⟩,fun φ w args' hL hS => ?_⟩
   obtain ⟨y,hy,hV⟩:=L_sgl hL
   have:=V_str hV
   subst this
   rw [arr_of hy]
   refine (Tryz.stringslite_Clone b w ?_).mono ?_
   ·have hb':(sL b).length ≤ 1000000:=by simpa using hb
    have e:(sL b).length = b.size:=by cases b with | mk d => cases d; rfl
    omega
   ·rintro e w' ⟨rfl,hb⟩
    exact ⟨φ,_,rfl,V.of0 rfl,Post.grown hS hb⟩
  ·cases h'
 ·split at h
  ·rename_i _ hf
   have hf:f = 13:=by simpa using hf
   subst hf
   have h':=Option.some.inj h
   unfold spCaught at h'
   split at h'
   ·rename_i g fs cap
    cases fs with
    | mk fl =>
    cases fl with
    | cons a l => cases h'
    | nil =>
    obtain ⟨⟨v1,s1⟩,hc,h'⟩:=oB_some.1 h'
    rw [pB_mk] at h'
    obtain ⟨a1,rfl,h'⟩:=vTup_some.1 h'
    cases a1 with
    | mk al =>
    cases al with
    | cons a l => cases h'
    | nil =>
    have h2:some (Value.agg #[.int .i64 0,.int .i64 0],s1) = some (v,s'):=h'
    cases h2
    obtain ⟨hds,hbd,hcall⟩:=hC g (aL cap) s _ _ hc
    refine ⟨hds,⟨_,_,Tryz.func13,rfl⟩,fun φ w args' hL hS => ?_⟩
    obtain ⟨y,hy,hV⟩:=L_sgl hL
    obtain ⟨f2,c2,rfl,hL1,hL2⟩:∃ f2 c2,y = .func (.func g) f2 c2 ∧ L (V0 φ) [] f2.toList ∧ L (V0 φ) cap.toList c2.toList:=by
     rcases hV with ((h | ⟨fn,f,c,f',c',h1,h2,h3,h4⟩) | ⟨_,_,h,_⟩) | ⟨_,_,h,_⟩
     ·exact h.elim
     ·cases h1; exact ⟨f',c',h2,h3,h4⟩
     ·cases h
     ·cases h
    have hf2:f2 = #[]:=by
     cases f2 with
     | mk l => cases l with
      | nil => rfl
      | cons _ _ => exact hL1.elim
    subst hf2
    rw [arr_of hy]
    have hG:=Post.grown hS (Below.alloc (Below.refl _ w) (Nat.le_refl _) Z2)
    refine (caught_none g c2 (fun w' => ∃ φ',Post φ s (w.alloc Z2) φ' s' w') w (run_callFunc names_ok hbd c2) ?_).mono ?_
    ·refine (hcall φ (w.alloc Z2) c2 (by rw [aL_eq]; exact hL2.mono fun _ _ => V.of0) hG.stt).mono ?_
     rintro e w' ⟨φ',v',rfl,hv,hP⟩
     refine ⟨⟨φ',hP⟩,?_,?_⟩
     ·rw [hP.ext.kept w.heap.size (by simp) ?_]
      ·exact heap_alloc_new w Z2
      ·intro x g _ hx hg he
       have:=hS.rel.bnd x g hg
       omega
     ·have:v' = .tuple #[]:=by
       rcases hv with ((h | ⟨fn,f,c,f',c',h1,_⟩) | ⟨_,_,h,_⟩) | ⟨c,c',h1,h2,h3⟩
       ·exact h.elim
       ·cases h1
       ·cases h
       ·cases h1
        cases c' with
        | mk l => cases l with
         | nil => exact h2
         | cons _ _ => exact h3.elim
      rw [this]
    ·rintro e w' ⟨rfl,wx,⟨φ',hP⟩,hz,rfl⟩
     obtain ⟨c0,c1,_,_⟩:=z2_cell hz
     rw [setCell_eq c0,setCell_eq c1]
     exact ⟨φ',_,rfl,.inl (.inr ⟨_,_,rfl,rfl,.inl rfl,.inl rfl,trivial⟩),hG.trans hS hP⟩
   ·cases h'
  ·split at h
   ·rename_i _ _ hf
    have hf:f = 116:=by simpa using hf
    subst hf
    have h':=Option.some.inj h
    unfold spIndex at h'
    split at h'
    ·rename_i b c
     rw [guardB_some,ble_dec] at h'
     obtain ⟨hc,h'⟩:=h'
     cases h'
     have hc:c ≤ 255:=by simpa using hc
     refine ⟨rfl,⟨_,_,Tryz.func116,rfl⟩,fun φ w args' hL hS => ?_⟩
     have hargs:args' = #[.string b,.int .u8 (.ofNat c)]:=by
      cases args' with
      | mk l =>
      cases l with
      | nil => exact hL.elim
      | cons y l =>
       obtain ⟨z,hz,hzV⟩:=L_sgl hL.2
       have h1:=V_str hL.1
       have h2:=V_int hzV
       subst h1; subst h2
       rw [hz]
     rw [hargs]
     refine (Tryz.strings_IndexByte b (.ofNat c) w).mono ?_
     rintro e w' ⟨rfl,rfl⟩
     refine ⟨φ,_,rfl,V.of0 ?_,Post.refl hS⟩
     show _ = Value.int .i64 (idxB c (sL b) 0)
     rw [idxB_eq c hc]
     have e2:sL b = b.data.toList:=by cases b with | mk d => cases d; rfl
     rw [e2]
     have e3:(Int.ofNat c).toNat.toUInt8 = c.toUInt8:=rfl
     rw [e3]
     congr 1
     split
     ·rename_i h; exact h
     ·simp
    ·cases h'
   ·cases h
end Xe
namespace Xe
noncomputable section
def sv (l:List UInt8):Value:=.string ⟨⟨l⟩⟩
def iv (n:Int):Value:=.int .i64 n
def pairL:List Value:=[iv 18,sv [111,114],iv 1,iv 17,sv [97,110,100],iv 2,iv 11,sv [61,61],iv 3,iv 12,sv [33,61],iv 3,iv 13,sv [60],iv 3,iv 14,sv [60,61],iv 3,iv 15,sv [62],iv 3,iv 16,sv [62,61],iv 3,iv 6,sv [43],iv 4,iv 7,sv [45],iv 4,iv 8,sv [42],iv 5,iv 9,sv [47],iv 5,iv 10,sv [37],iv 5]
def truthL:List Value:=[iv 2,sv []]
def numL:List Value:=[iv 1,sv []]
def h0:Hp:=fun x => bB (Nat.beq x 0) (some (.cells ⟨pairL⟩ 0)) (bB (Nat.beq x 1) (some (.cells ⟨truthL⟩ 0)) (bB (Nat.beq x 2) (some (.cells ⟨numL⟩ 0)) none))
def s0:S:=⟨10,h0,[]⟩
def fn:Cl:=func Tryz.prog (special 54 13 116) 60 false
end
structure Tabs (w:World):Prop where
 pairs:∃ e fr,w.heap[0]? = some (.cells ⟨pairL⟩ e fr)
 truth:∃ e fr,w.heap[1]? = some (.cells ⟨truthL⟩ e fr)
 num:∃ e fr,w.heap[2]? = some (.cells ⟨numL⟩ e fr)
theorem Tabs.below {w w':World} (h:Tabs w) (hb:Below w.heap.size w w'):Tabs w':=by
 obtain ⟨⟨e0,f0,h0⟩,⟨e1,f1,h1⟩,⟨e2,f2,h2⟩⟩:=h
 have l:∀ {b:Nat} {o:Obj},w.heap[b]? = some o → w'.heap[b]? = some o:=fun {b o} h => (hb.block b (Array.getElem?_eq_some_iff.1 h).1).trans h
 exact ⟨⟨e0,f0,l h0⟩,⟨e1,f1,l h1⟩,⟨e2,f2,l h2⟩⟩
def ph0:Ph:=fun x => if x = 0 then some ⟨0,39⟩ else if x = 1 then some ⟨1,2⟩ else if x = 2 then some ⟨2,2⟩ else none
theorem h0_some {x:Nat} {o:Obj} (h:h0 x = some o):(x = 0 ∧ o = .cells ⟨pairL⟩ 0) ∨ (x = 1 ∧ o = .cells ⟨truthL⟩ 0) ∨ (x = 2 ∧ o = .cells ⟨numL⟩ 0):=by
 unfold h0 at h
 rw [bB_ite,bB_ite,bB_ite,beq_dec,beq_dec,beq_dec] at h
 split at h
 ·rename_i e; cases h; exact .inl ⟨by simpa using e,rfl⟩
 ·split at h
  ·rename_i e; cases h; exact .inr (.inl ⟨by simpa using e,rfl⟩)
  ·split at h
   ·rename_i e; cases h; exact .inr (.inr ⟨by simpa using e,rfl⟩)
   ·cases h
theorem L_V1 (φ:Ph):∀ (l:List Value),(∀ v ∈ l,(∃ n,v = iv n) ∨ ∃ b,v = sv b) → L (V1 φ) l l:=fun l h => L.refl l fun v hv => by
 rcases h v hv with ⟨n,rfl⟩ | ⟨b,rfl⟩ <;> exact .inl rfl
theorem stt0 {w:World} (h:Tabs w):Stt ph0 s0 w:=by
 obtain ⟨⟨e0,f0,q0⟩,⟨e1,f1,q1⟩,⟨e2,f2,q2⟩⟩:=h
 have b0:=(Array.getElem?_eq_some_iff.1 q0).1
 have b1:=(Array.getElem?_eq_some_iff.1 q1).1
 have b2:=(Array.getElem?_eq_some_iff.1 q2).1
 have hk:∀ l:List Value,(l = pairL ∨ l = truthL ∨ l = numL) → ∀ v ∈ l,(∃ n,v = iv n) ∨ ∃ b,v = sv b:=by
  intro l hl v hv
  rcases hl with rfl | rfl | rfl
  ·simp only [pairL,List.mem_cons,List.not_mem_nil,or_false] at hv
   rcases hv with h | h | h | h | h | h | h | h | h | h | h | h | h | h | h | h | h | h | h | h | h | h | h | h | h | h | h | h | h | h | h | h | h | h | h | h | h | h | h <;> first | exact .inl ⟨_,h⟩ | exact .inr ⟨_,h⟩
  ·simp only [truthL,List.mem_cons,List.not_mem_nil,or_false] at hv
   rcases hv with h | h <;> first | exact .inl ⟨_,h⟩ | exact .inr ⟨_,h⟩
  ·simp only [numL,List.mem_cons,List.not_mem_nil,or_false] at hv
   rcases hv with h | h <;> first | exact .inl ⟨_,h⟩ | exact .inr ⟨_,h⟩
 refine ⟨⟨?_,?_,?_,?_⟩,?_⟩
 ·intro x o hx
  rcases h0_some hx with ⟨rfl,rfl⟩ | ⟨rfl,rfl⟩ | ⟨rfl,rfl⟩
  ·exact ⟨⟨0,39⟩,⟨pairL⟩,e0,f0,rfl,q0,rfl,fun h => absurd h (by omega),Nat.le_refl _,L_V1 _ _ (hk _ (.inl rfl))⟩
  ·exact ⟨⟨1,2⟩,⟨truthL⟩,e1,f1,rfl,q1,rfl,fun h => absurd h (by omega),Nat.le_refl _,L_V1 _ _ (hk _ (.inr (.inl rfl)))⟩
  ·exact ⟨⟨2,2⟩,⟨numL⟩,e2,f2,rfl,q2,rfl,fun h => absurd h (by omega),Nat.le_refl _,L_V1 _ _ (hk _ (.inr (.inr rfl)))⟩
 ·rintro x y g g' ⟨o,hx,_⟩ ⟨o',hy,_⟩ h1 h2 e
  rcases h0_some hx with ⟨rfl,_⟩ | ⟨rfl,_⟩ | ⟨rfl,_⟩ <;> rcases h0_some hy with ⟨rfl,_⟩ | ⟨rfl,_⟩ | ⟨rfl,_⟩ <;> first | rfl | (cases h1; cases h2; cases e)
 ·intro x g hx
  unfold ph0 at hx
  split at hx
  ·cases hx; exact b0
  ·split at hx
   ·cases hx; exact b1
   ·split at hx
    ·cases hx; exact b2
    ·cases hx
 ·intro x hx
  have:x = 0 ∨ x = 1 ∨ x = 2:=by omega
  rcases this with rfl | rfl | rfl
  ·exact ⟨39,rfl⟩
  ·exact ⟨2,rfl⟩
  ·exact ⟨2,rfl⟩
 ·intro x hx
  have hx':10 ≤ x:=hx
  unfold ph0
  rw [if_neg (by omega),if_neg (by omega),if_neg (by omega)]
end Xe
end Go.Proofs.YtpnljpdpobbiiaaGreatDoor
