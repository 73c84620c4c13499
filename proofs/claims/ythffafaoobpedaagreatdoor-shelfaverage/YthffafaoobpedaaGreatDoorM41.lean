/-
 DERIVED: THE SHELF's CONTRACTS AT THIS DUMP,IN PLAIN WORDS (tools/lay-plain.mjs out of 'TryzShelf.lean',which tools/lay-shelf.mjs wrote): THE SAME DECLARATIONS UNDER THE SAME NAMES: 'import','namespace','open','def','theorem' AND NOTHING ELSE: no command of the shelf's: FOR A HAND-IN. Each laying: the table of numbers ('.._ren') and one theorem,a field a fact of the dump's own or the kernel's comparison;each contract: ONE APPLICATION.
-/
import Derived.Shelf.Small.Strs
import Derived.Shelf.LaysM
import Derived.Shelf.Strconv.Clone
import Derived.Shelf.Strings.Search1
import Derived.Shelf.Slices.Turned
import Derived.Test.YthffafaoobpedaaGreatDoorProg
import Derived.Test.YthffafaoobpedaaGreatDoorM40
import Derived.WalkSpells
import Derived.WalkLawsBesides
import Derived.Deep.QuietTactic
import Derived.BigQuiet
import Derived.Recover
import Derived.Test.YthffafaoobpedaaGreatDoorM38
import Derived.Test.YthffafaoobpedaaGreatDoorM1
set_option maxRecDepth 100000
set_option maxHeartbeats 400000
namespace Go.Proofs
open Go.Shelf
def Tryz.abv:Go.Shelf.Ren:=⟨fun | 137=>216 | 217=>226 | 266=>234 | n=>n,fun | 9=>9 | 5=>5 | 3=>3 | n=>n,fun | n=>n⟩
theorem Tryz.abw:Go.Proofs.Lays.n137 Tryz.prog Tryz.abv:={
 mixed:=by kernel_rfl
 f137:=Tryz.func216.trans (congrArg some (by kernel_rfl))
 f217:=Tryz.func226.trans (congrArg some (by kernel_rfl))
 f266:=Tryz.func234.trans (congrArg some (by kernel_rfl))
 t3:=Tryz.underlying3
 a3:=Tryz.isAgg3
 z3:=Tryz.sizeOf3
 v3:=Tryz.zeroValue3
 t5:=Tryz.underlying5
 a5:=Tryz.isAgg5
 z5:=Tryz.sizeOf5
 v5:=Tryz.zeroValue5
 t9:=Tryz.underlying9
 a9:=Tryz.isAgg9
 z9:=Tryz.sizeOf9
 v9:=Tryz.zeroValue9 }
open Go.RowKit in
theorem Tryz.strings_IndexByte (s:ByteArray)(c:Int)(w:World) :
  Calls Tryz.prog 216 #[.string s,.int .u8 c] w fun e w'=>e=.returned (.int .i64 (Lib.indexByte s.data.toList c.toNat.toUInt8))∧w'=w:=Any.strings_IndexByte Tryz.abw s c w
def Tryz.abx:Go.Shelf.Ren:=⟨fun | 316=>206 | n=>n,fun | 9=>9 | 3=>3 | 4=>4 | 37=>291 | 0=>0 | 127=>292 | 5=>5 | n=>n,fun | n=>n⟩
theorem Tryz.aby:Go.Proofs.LaysM.n316 Tryz.prog Tryz.abx:={
 mixed:=by kernel_rfl
 f316:=Tryz.func206.trans (congrArg some (by kernel_rfl))
 t0:=Tryz.underlying0
 a0:=Tryz.isAgg0
 z0:=Tryz.sizeOf0
 v0:=Tryz.zeroValue0
 t3:=Tryz.underlying3
 a3:=Tryz.isAgg3
 z3:=Tryz.sizeOf3
 v3:=Tryz.zeroValue3
 t4:=Tryz.underlying4
 a4:=Tryz.isAgg4
 z4:=Tryz.sizeOf4
 v4:=Tryz.zeroValue4
 t9:=Tryz.underlying9
 a9:=Tryz.isAgg9
 z9:=Tryz.sizeOf9
 v9:=Tryz.zeroValue9
 t37:=Tryz.underlying291
 a37:=Tryz.isAgg291
 z37:=Tryz.sizeOf291
 v37:=Tryz.zeroValue291
 t127:=Tryz.underlying292
 a127:=Tryz.isAgg292
 z127:=Tryz.sizeOf292
 v127:=Tryz.zeroValue292
 t5:=Tryz.underlying5
 a5:=Tryz.isAgg5
 z5:=Tryz.sizeOf5
 v5:=Tryz.zeroValue5
 i0:=by kernel_rfl
 i3:=by kernel_rfl
 i4:=by kernel_rfl
 i5:=by kernel_rfl
 i9:=by kernel_rfl
 i37:=by kernel_rfl
 i127:=by kernel_rfl }
open Go.RowKit in
theorem Tryz.stringslite_Clone (s:ByteArray)(w:World)(hlim:s.size≤281474976710656) :
  Calls Tryz.prog 206 #[.string s] w fun e w'=>e=.returned (.string s)∧Below w.heap.size w w':=Any.stringslite_Clone Tryz.aby s w hlim
end Go.Proofs
/- The calls that our machine takes as a whole: strings.Clone,throw.Caught,strings.IndexByte. -/
namespace Go.Proofs.YthffafaoobpedaaGreatDoor
open Go.RowKit
namespace Xe
theorem Post.grown {φ:Ph}{s:S}{w w':World}(h:gB φ s w)(hb:Below w.heap.size w w'):Post φ s w φ s w':=by
 refine ⟨⟨⟨fun x o hx=>(h.rel.obj x o hx).mono (Sub.refl φ) fun g hg=>hb.block g.b (h.rel.bnd x g hg),h.rel.inj,fun x g hx=>Nat.lt_of_lt_of_le (h.rel.bnd x g hx) hb.size,h.rel.kV⟩,h.fr⟩,⟨Sub.refl φ,hb.size,fun x g h0 h1=>?_,fun b hb' _=>hb.block b hb',⟨hb.os,hb.tape,hb.output⟩⟩,Nat.le_refl _,fun _ h0 h1=>(h1 h0).elim,fun _ hx=>.inl hx⟩
 rw [h0] at h1;cases h1
theorem Qc (c:Nat)(hc:c≤255):∀ (l:List UInt8) (i:Nat),rz c l i=if Lib.indexByte l c.toUInt8=-1 then -1 else Lib.indexByte l c.toUInt8+i
 | [],i=>rfl
 | b :: l,i=>by
  have ih:=Qc c hc l (i+1)
  have hbc:Nat.beq b.toNat c=(b == c.toUInt8):=by
   rw [dG,Bool.eq_iff_iff,beq_iff_eq,decide_eq_true_eq]
   constructor
   ·intro h
    apply UInt8.toNat_inj.1
    rw [h]
    simp [Nat.toUInt8]
    omega
   ·rintro rfl
    simp [Nat.toUInt8]
    omega
  have hpos:∀ l:List UInt8,-1≤Lib.indexByte l c.toUInt8:=by
   intro l
   induction l with
   | nil=>simp [Lib.indexByte]
   | cons b l ih =>
    unfold Lib.indexByte
    split
    ·omega
    ·split
     ·omega
     ·omega
  have hp:=hpos l
  have e1:rz c (b :: l) i=match Nat.beq b.toNat c with | true=>.ofNat i | false=>rz c l (Nat.succ i):=rfl
  rw [e1,hbc]
  unfold Lib.indexByte
  cases hb:(b == c.toUInt8) with
  | true=>simp
  | false =>
   simp only [Bool.false_eq_true,if_false]
   rw [show rz c l (Nat.succ i)=rz c l (i+1) from rfl,ih]
   by_cases h1:Lib.indexByte l c.toUInt8=-1
   ·simp [h1]
   ·have hb1:(Lib.indexByte l c.toUInt8 == -1)=false:=by simpa using h1
    have h2:¬ Lib.indexByte l c.toUInt8+1=-1:=by omega
    rw [if_neg h1,hb1]
    simp only [Bool.false_eq_true,if_false]
    rw [if_neg h2]
    push_cast
    omega
theorem setCell_eq {w:World}{b o:Nat}{v:Value}(h:w.cell? ⟨b,o,none⟩=some v):w.setCell ⟨b,o,none⟩ v=w:=by
 obtain ⟨heap,tape,drawn,os,output⟩:=w
 simp only [World.setCell]
 congr 1
 apply Array.ext_getElem?
 intro k
 rw [Array.getElem?_modify]
 split
 ·rename_i e
  have e':b=k:=e
  subst e'
  simp only [World.cell?] at h
  cases hb:heap[b]? with
  | none=>rfl
  | some ob =>
   rw [hb] at h
   cases ob with
   | cells cs t fr =>
    simp only [Option.map_some,Option.some.injEq]
    have h':cs[o]?=some v:=h
    congr 1
    simp only [Option.isSome_none,Bool.false_eq_true,if_false]
    apply Array.ext_getElem?
    intro j
    rw [Array.getElem?_setIfInBounds]
    split
    ·rename_i ej
     have ej':o=j:=ej
     subst ej'
     split
     ·exact h'.symm
     ·rename_i hlt
      rw [Array.getElem?_eq_none (by omega)]
    ·rfl
   | _=>first | rfl | simp at h
 ·rfl
theorem Fv (F:Nat)(w:World) :
  CallsD Tryz.prog 78 #[.pointer (some ⟨F,0,none⟩)] .returning w fun e u' w'=>e=.returned (.tuple #[])∧u'=.returning∧w'=w:=by
 refine callsD_of_wpS Tryz.func78 rfl fun c₀ cs hu=>?_
 apply wpS_seq
 apply wpS_region
 simp [wpOpsS,go_sem,recoverD,hu,Tryz.ntmps78,Exit.thenS]
 apply wpS_seq
 apply wpS_region
 simp [wpOpsS,go_sem,Exit.thenS]
 refine wpS_cond (t:=false) (by simp [Act.eval,Array.replicate]) ?_
 simp only [Bool.false_eq_true,if_false]
 refine wpS_of_wp (wp_skip ?_)
 cases c₀
 simp_all [bodyPostS,results,Tryz.results78]
abbrev Z2:Obj:=.cells #[.int .i64 0,.int .i64 0] 60 (0,0)
theorem Qd {w:World}{b:Nat}(h:w.heap[b]?=some Z2) :
  w.cell? ⟨b,0,none⟩=some (.int .i64 0)∧w.cell? ⟨b,1,none⟩=some (.int .i64 0)∧w.frozen? ⟨b,0,none⟩=false∧w.frozen? ⟨b,1,none⟩=false:=by simp [World.cell?,World.frozen?,h]
theorem abA (g:FuncId)(cap:Array Value)(X:World→Prop)(w:World)(hcf:∀ w:World,(callFunc g cap).run Tryz.prog w=.ok (.enter g cap) w)
  (hw:Calls Tryz.prog g cap (w.alloc Z2) fun e w'=>X w'∧w'.heap[w.heap.size]?=some Z2∧e=.returned (.tuple #[])) :
  Calls Tryz.prog 45 #[.func (.func g) #[] cap] w fun e w'=>e=.returned (.agg #[.int .i64 0,.int .i64 0])∧∃ wx,X wx∧wx.heap[w.heap.size]?=some Z2∧w'=(wx.setCell ⟨w.heap.size,0,none⟩ (.int .i64 0)).setCell ⟨w.heap.size,1,none⟩ (.int .i64 0):=by
 have vJ:∀ (fn:Fn) (first cap:Array Value) (w:World),(Instr.makeFunc fn first cap).run Tryz.prog w=.ok (.func fn first cap) w:=fun _ _ _ _=>rfl
 go_enter_defers Tryz.func45,Tryz.ntmps45
 go_wp2_with fail
 refine hw.mono ?_
 rintro e w1 ⟨hX,hF,rfl⟩
 obtain ⟨c0,c1,f0,f1⟩:=Qd hF
 have HX:Hid (X w1):=hX
 have HF:Hid (w1.heap[w.heap.size]?=some Z2):=hF
 clear hX hF hw
 go_wp2
 refine leaves_cons (f:=78) (args:=#[.pointer (some ⟨w.heap.size,0,none⟩)]) (by simp) (by simp [go_sem]) ?_
 refine (Fv w.heap.size _).mono ?_
 rintro e u' w'' ⟨rfl,rfl,rfl⟩
 show Leaves _ _ _ _ [] .returning _
 exact ⟨.agg #[.int .i64 0,.int .i64 0],by simp [results,Tryz.results45,go_sem,c0,c1],rfl,w1,HX.out,HF.out,rfl⟩
theorem CO:jb Tryz.prog:=by
 have h:(Tryz.prog.funcs.toList.all fun fn=>!(fn.name == "runtime.NumGoroutine"))=true:=by kernel_rfl
 intro f fn hf
 rw [List.all_eq_true] at h
 have:=h fn (by have:=Array.mem_of_getElem? hf;simpa using this)
 simpa using this
theorem Iu {α β:Type}{R:α→β→Prop}{x:α}{l:List β}(h:L R [x] l):∃ y,l=[y]∧R x y:=by
 cases l with
 | nil=>exact h.elim
 | cons y l =>
  cases l with
  | nil=>exact ⟨y,rfl,h.1⟩
  | cons z l=>exact h.2.elim
theorem Qe {α:Type}{a:Array α}{l:List α}(h:a.toList=l):a=l.toArray:=by cases a;simp at h;simp [h]
theorem abB:H7 Tryz.prog (iF 206 45 216):=by
 intro call hC f args s v s' h
 unfold iF at h
 rw [bS,bS,bS,dG,dG,dG] at h
 split at h
 ·rename_i hf
  have hf:f=206:=by simpa using hf
  subst hf
  have h':=Option.some.inj h
  unfold OE at h'
  split at h'
  ·rename_i b
   rw [aN,dL] at h'
   obtain ⟨hb,h'⟩:=h'
   cases h'
   refine ⟨rfl,⟨_,_,Tryz.func206,rfl⟩,fun φ w args' hL hS=>?_⟩
   obtain ⟨y,hy,hV⟩:=Iu hL
   have:=rA hV
   subst this
   rw [Qe hy]
   refine (Tryz.stringslite_Clone b w ?_).mono ?_
   ·have hb':(sL b).length≤1000000:=by simpa using hb
    have e:(sL b).length=b.size:=by cases b with | mk d=>cases d;rfl
    omega
   ·rintro e w' ⟨rfl,hb⟩
    exact ⟨φ,_,rfl,V.dS rfl,Post.grown hS hb⟩
  ·cases h'
 ·split at h
  ·rename_i _ hf
   have hf:f=45:=by simpa using hf
   subst hf
   have h':=Option.some.inj h
   unfold OG at h'
   split at h'
   ·rename_i g fs cap
    cases fs with
    | mk fl =>
    cases fl with
    | cons a l=>cases h'
    | nil =>
    obtain ⟨⟨v1,s1⟩,hc,h'⟩:=ai.1 h'
    rw [gD] at h'
    obtain ⟨a1,rfl,h'⟩:=GM.1 h'
    cases a1 with
    | mk al =>
    cases al with
    | cons a l=>cases h'
    | nil =>
    have h2:some (Value.agg #[.int .i64 0,.int .i64 0],s1)=some (v,s'):=h'
    cases h2
    obtain ⟨hds,hbd,hcall⟩:=hC g (aL cap) s _ _ hc
    refine ⟨hds,⟨_,_,Tryz.func45,rfl⟩,fun φ w args' hL hS=>?_⟩
    obtain ⟨y,hy,hV⟩:=Iu hL
    obtain ⟨f2,c2,rfl,hL1,hL2⟩:∃ f2 c2,y=.func (.func g) f2 c2∧L (V0 φ) [] f2.toList∧L (V0 φ) cap.toList c2.toList:=by
     rcases hV with ((h | ⟨fn,f,c,f',c',h1,h2,h3,h4⟩) | ⟨_,_,h,_⟩) | ⟨_,_,h,_⟩
     ·exact h.elim
     ·cases h1;exact ⟨f',c',h2,h3,h4⟩
     ·cases h
     ·cases h
    have hf2:f2=#[]:=by
     cases f2 with
     | mk l=>cases l with
      | nil=>rfl
      | cons _ _=>exact hL1.elim
    subst hf2
    rw [Qe hy]
    have hG:=Post.grown hS (Below.alloc (Below.refl _ w) (Nat.le_refl _) Z2)
    refine (abA g c2 (fun w'=>∃ φ',Post φ s (w.alloc Z2) φ' s' w') w (Co CO hbd c2) ?_).mono ?_
    ·refine (hcall φ (w.alloc Z2) c2 (by rw [bF];exact hL2.mono fun _ _=>V.dS) hG.stt).mono ?_
     rintro e w' ⟨φ',v',rfl,hv,hP⟩
     refine ⟨⟨φ',hP⟩,?_,?_⟩
     ·rw [hP.ext.kept w.heap.size (by simp) ?_]
      ·exact heap_alloc_new w Z2
      ·intro x g _ hx hg he
       have:=hS.rel.bnd x g hg
       omega
     ·have:v'=.tuple #[]:=by
       rcases hv with ((h | ⟨fn,f,c,f',c',h1,_⟩) | ⟨_,_,h,_⟩) | ⟨c,c',h1,h2,h3⟩
       ·exact h.elim
       ·cases h1
       ·cases h
       ·cases h1
        cases c' with
        | mk l=>cases l with
         | nil=>exact h2
         | cons _ _=>exact h3.elim
      rw [this]
    ·rintro e w' ⟨rfl,wx,⟨φ',hP⟩,hz,rfl⟩
     obtain ⟨c0,c1,_,_⟩:=Qd hz
     rw [setCell_eq c0,setCell_eq c1]
     exact ⟨φ',_,rfl,.inl (.inr ⟨_,_,rfl,rfl,.inl rfl,.inl rfl,trivial⟩),hG.trans hS hP⟩
   ·cases h'
  ·split at h
   ·rename_i _ _ hf
    have hf:f=216:=by simpa using hf
    subst hf
    have h':=Option.some.inj h
    unfold OH at h'
    split at h'
    ·rename_i b c
     rw [aN,dL] at h'
     obtain ⟨hc,h'⟩:=h'
     cases h'
     have hc:c≤255:=by simpa using hc
     refine ⟨rfl,⟨_,_,Tryz.func216,rfl⟩,fun φ w args' hL hS=>?_⟩
     have hargs:args'=#[.string b,.int .u8 (.ofNat c)]:=by
      cases args' with
      | mk l =>
      cases l with
      | nil=>exact hL.elim
      | cons y l =>
       obtain ⟨z,hz,hzV⟩:=Iu hL.2
       have h1:=rA hL.1
       have h2:=mM hzV
       subst h1;subst h2
       rw [hz]
     rw [hargs]
     refine (Tryz.strings_IndexByte b (.ofNat c) w).mono ?_
     rintro e w' ⟨rfl,rfl⟩
     refine ⟨φ,_,rfl,V.dS ?_,Post.refl hS⟩
     show _=Value.int .i64 (rz c (sL b) 0)
     rw [Qc c hc]
     have e2:sL b=b.data.toList:=by cases b with | mk d=>cases d;rfl
     rw [e2]
     have e3:(Int.ofNat c).toNat.toUInt8=c.toUInt8:=rfl
     rw [e3]
     congr 1
     split
     ·rename_i h;exact h
     ·simp
    ·cases h'
   ·cases h
end Xe
namespace Xe
noncomputable section
def Qf (i:Int):Bool:=leI (-9223372036854775808) i && leI i 9223372036854775807
def gF (v:Value):Option Int:=iX v none fun k i=>aM (Nat.beq (mJ k) 3 && Qf i) (some i)
def oO (h:Hp)(z:Nat)(v:Value):Option (List Value):=qj v none fun a n k=>@Option.rec Addr (fun _=>Option (List Value)) (nB n (some []) fun _=>none) (fun a=>nB n (some []) fun m=>aM (Nat.beq k z) (nJ h a (Nat.mul (Nat.succ m) z))) a
def wZ:List Value→Option (List Int)
 | []=>some []
 | a :: l=>oB (gF a) fun x=>oB (wZ l) fun r=>some (x :: r)
def CP:List Value→Option (List Vf.Bx)
 | []=>some []
 | a :: b :: l=>oB (gF a) fun x=>oB (gF b) fun y=>oB (CP l) fun r=>some (⟨x,y⟩ :: r)
 | _=>none
def xc:List Value→Option (List Vf.Ins)
 | []=>some []
 | a :: b :: c :: l=>oB (gF a) fun x=>oB (gF b) fun y=>oB (gF c) fun z=>oB (xc l) fun r=>some (⟨x,y,z⟩ :: r)
 | _=>none
def CQ (h:Hp):List Value→Option (List Vf.Un)
 | []=>some []
 | a :: b :: c :: d :: e :: f :: l=>oB (gF a) fun k=>oB (gF b) fun p=>oB (oB (oO h 1 c) wZ) fun lo=>oB (gF d) fun r=>oB (gF e) fun t=>oB (oB (oO h 3 f) xc) fun co=>oB (CQ h l) fun us=>some (⟨k,p,lo,r,t,co⟩ :: us)
 | _=>none
def CR (h:Hp)(v:Value):Option Vf.Md:=q9 v none fun a=>match aL a with
 | [b,u]=>oB (oB (oO h 2 b) CP) fun bs=>oB (oB (oO h 6 u) (CQ h)) fun us=>some ⟨bs,us⟩
 | _=>none
end
theorem nU {v:Value}{i:Int}(h:gF v=some i):v=.int .i64 i∧cB i:=by
 unfold gF at h
 obtain ⟨k,j,rfl,h0⟩:=qA.1 h
 rw [aN,Bool.and_eq_true] at h0
 obtain ⟨⟨h1,h2⟩,h3⟩:=h0
 cases h3
 have hk:k=.i64:=by cases k <;> first | rfl | (exact absurd h1 (by decide))
 subst hk
 unfold Qf at h2
 rw [Bool.and_eq_true,GR,GR] at h2
 exact ⟨rfl,by simpa using h2.1,by simpa using h2.2⟩
theorem Qg {φ:Ph}{k:IntKind}{i:Int}{y:Value}(h:V1 φ (.int k i) y):y=.int k i:=by
 rcases h with h | ⟨_,_,_,_,_,h,_⟩
 ·exact h
 ·cases h
structure Iw (φ:Ph) (w:World) (z:Nat) (l:List Value) (v':Value) (a:Option Addr) (n c:Nat):Prop where
 val:v'=.slice a n c
 le:n≤c
 len:l.length=n * z
 cell:∀ (j:Nat) x,l[j]?=some x→∃ b off y,a=some ⟨b,off,none⟩∧b < w.heap.size∧V1 φ x y∧w.cell? ⟨b,off+j,none⟩=some y
theorem CS {φ:Ph}{h:Hp}{w:World}{z:Nat}{v v':Value}{l:List Value}(hr:oO h z v=some l)(hv:V1 φ v v')(r:Rel φ h w):∃ a n c,Iw φ w z l v' a n c:=by
 unfold oO at hr
 obtain ⟨a,n,k,rfl,hr⟩:=wO.1 hr
 have hv0:V0 φ (.slice a n k) v':=by
  rcases hv with h | ⟨_,_,_,_,_,h,_⟩
  ·exact h
  ·cases h
 cases a with
 | none =>
  obtain ⟨rfl,rfl⟩:n=0∧v'=.slice none 0 0:=hv0
  have hr':some []=some l:=hr
  cases hr'
  exact ⟨none,0,0,rfl,Nat.le_refl _,by simp,fun j x hx=>by simp at hx⟩
 | some a =>
  obtain ⟨a',c,rfl,hS⟩:∃ a' c,v'=.slice a' n c∧SR φ a n k a' c:=hv0
  cases n with
  | zero =>
   have hr':some []=some l:=hr
   cases hr'
   exact ⟨a',0,c,rfl,Nat.zero_le _,by simp,fun j x hx=>by simp at hx⟩
  | succ m =>
   have hr':aM (Nat.beq k z) (nJ h a (Nat.mul (Nat.succ m) z))=some l:=hr
   rw [aN,dG] at hr'
   obtain ⟨hk,hr'⟩:=hr'
   have hk:k=z:=by simpa using hk
   subst hk
   rcases hS with ⟨_,h0⟩ | ⟨hsp,hle,g,hg,rfl,_⟩
   ·omega
   ·obtain ⟨l',hL,hlen,hcell⟩:=Cb hr' r ⟨hsp,g,hg,rfl⟩
    refine ⟨_,m+1,c,rfl,hle,by rw [L.length hL,hlen];rfl,fun j x hx=>?_⟩
    obtain ⟨y,hy,hV⟩:=L.at hL hx
    refine ⟨g.b,a.off,y,rfl,r.bnd _ _ hg,hV,?_⟩
    have:=hcell j y hy
    unfold Addr.add at this
    split at this
    ·rename_i hj;subst hj;exact this
    ·exact this
theorem Qh:∀ {l:List Value} {r:List Int},wZ l=some r→l.length=r.length∧∀ (i:Nat) x,r[i]?=some x→l[i]?=some (.int .i64 x)∧cB x
 | [],r,h=>by
  have h':some []=some r:=h
  cases h'
  exact ⟨rfl,fun i x hx=>by simp at hx⟩
 | a :: l,r,h=>by
  have h':(oB (gF a) fun x=>oB (wZ l) fun r=>some (x :: r))=some r:=h
  obtain ⟨x,hx,h'⟩:=ai.1 h'
  obtain ⟨r',hr,h'⟩:=ai.1 h'
  cases h'
  obtain ⟨rfl,h64⟩:=nU hx
  obtain ⟨h1,h2⟩:=Qh hr
  refine ⟨by simp [h1],fun i y hy=>?_⟩
  cases i with
  | zero=>simp at hy;subst hy;exact ⟨rfl,h64⟩
  | succ i=>simp at hy;simpa using h2 i y hy
theorem Qi:∀ {l:List Value} {r:List Vf.Bx},CP l=some r→l.length=r.length * 2∧∀ (i:Nat) x,r[i]?=some x→l[i * 2]?=some (.int .i64 x.ty)∧l[i * 2+1]?=some (.int .i64 x.cap)∧cB x.ty∧cB x.cap
 | [],r,h=>by
  have h':some []=some r:=h
  cases h'
  exact ⟨rfl,fun i x hx=>by simp at hx⟩
 | [a],r,h=>by
  have h':none=some r:=h
  cases h'
 | a :: b :: l,r,h=>by
  have h':(oB (gF a) fun x=>oB (gF b) fun y=>oB (CP l) fun r=>some ((⟨x,y⟩:Vf.Bx) :: r))=some r:=h
  obtain ⟨x,hx,h'⟩:=ai.1 h'
  obtain ⟨y,hy,h'⟩:=ai.1 h'
  obtain ⟨r',hr,h'⟩:=ai.1 h'
  cases h'
  obtain ⟨rfl,pX⟩:=nU hx
  obtain ⟨rfl,Iy⟩:=nU hy
  obtain ⟨h1,h2⟩:=Qi hr
  refine ⟨by simp [h1];omega,fun i u hu=>?_⟩
  cases i with
  | zero=>simp at hu;subst hu;exact ⟨rfl,rfl,pX,Iy⟩
  | succ i =>
   simp at hu
   have:=h2 i u hu
   rw [show (i+1) * 2=i * 2+2 by omega,show i * 2+2+1=i * 2+1+2 by omega]
   simpa using this
theorem Qj:∀ {l:List Value} {r:List Vf.Ins},xc l=some r→l.length=r.length * 3∧∀ (i:Nat) x,r[i]?=some x→l[i * 3]?=some (.int .i64 x.op)∧l[i * 3+1]?=some (.int .i64 x.a)∧l[i * 3+2]?=some (.int .i64 x.n)∧cB x.op∧cB x.a∧cB x.n
 | [],r,h=>by
  have h':some []=some r:=h
  cases h'
  exact ⟨rfl,fun i x hx=>by simp at hx⟩
 | [a],r,h=>by
  have h':none=some r:=h
  cases h'
 | [a,b],r,h=>by
  have h':none=some r:=h
  cases h'
 | a :: b :: c :: l,r,h=>by
  have h':(oB (gF a) fun x=>oB (gF b) fun y=>oB (gF c) fun z=>oB (xc l) fun r=>some ((⟨x,y,z⟩:Vf.Ins) :: r))=some r:=h
  obtain ⟨x,hx,h'⟩:=ai.1 h'
  obtain ⟨y,hy,h'⟩:=ai.1 h'
  obtain ⟨z,hz,h'⟩:=ai.1 h'
  obtain ⟨r',hr,h'⟩:=ai.1 h'
  cases h'
  obtain ⟨rfl,pX⟩:=nU hx
  obtain ⟨rfl,Iy⟩:=nU hy
  obtain ⟨rfl,abD⟩:=nU hz
  obtain ⟨h1,h2⟩:=Qj hr
  refine ⟨by simp [h1];omega,fun i u hu=>?_⟩
  cases i with
  | zero=>simp at hu;subst hu;exact ⟨rfl,rfl,rfl,pX,Iy,abD⟩
  | succ i =>
   simp at hu
   have:=h2 i u hu
   rw [show (i+1) * 3=i * 3+3 by omega,show i * 3+3+1=i * 3+1+3 by omega,show i * 3+3+2=i * 3+2+3 by omega]
   simpa using this
structure abE (h:Hp) (l:List Value) (j:Nat) (u:Vf.Un):Prop where
 kind:l[j]?=some (.int .i64 u.kind)∧cB u.kind
 params:l[j+1]?=some (.int .i64 u.params)∧cB u.params
 locals:∃ v r,l[j+2]?=some v∧oO h 1 v=some r∧wZ r=some u.locals
 result:l[j+3]?=some (.int .i64 u.result)∧cB u.result
 takes:l[j+4]?=some (.int .i64 u.takes)∧cB u.takes
 code:∃ v r,l[j+5]?=some v∧oO h 3 v=some r∧xc r=some u.code
theorem abF (a b c d e f:Value)(l:List Value)(i q:Nat):(a :: b :: c :: d :: e :: f :: l)[(i+1) * 6+q]?=l[i * 6+q]?:=by
 rw [show (i+1) * 6+q=i * 6+q+6 by omega]
 rfl
theorem Qk {h:Hp}:∀ {l:List Value} {r:List Vf.Un},CQ h l=some r→l.length=r.length * 6∧∀ (i:Nat) u,r[i]?=some u→abE h l (i * 6) u
 | [],r,e=>by
  have e':some []=some r:=e
  cases e'
  exact ⟨rfl,fun i x hx=>by simp at hx⟩
 | [_],r,e=>by
  have e':none=some r:=e
  cases e'
 | [_,_],r,e=>by
  have e':none=some r:=e
  cases e'
 | [_,_,_],r,e=>by
  have e':none=some r:=e
  cases e'
 | [_,_,_,_],r,e=>by
  have e':none=some r:=e
  cases e'
 | [_,_,_,_,_],r,e=>by
  have e':none=some r:=e
  cases e'
 | a :: b :: c :: d :: e :: f :: l,r,h'=>by
  have h':(oB (gF a) fun k=>oB (gF b) fun p=>oB (oB (oO h 1 c) wZ) fun lo=>oB (gF d) fun r=>oB (gF e) fun t=>oB (oB (oO h 3 f) xc) fun co=>oB (CQ h l) fun us=>some ((⟨k,p,lo,r,t,co⟩:Vf.Un) :: us))=some r:=h'
  obtain ⟨k,hk,h'⟩:=ai.1 h'
  obtain ⟨p,hp,h'⟩:=ai.1 h'
  obtain ⟨lo,hlo,h'⟩:=ai.1 h'
  obtain ⟨lor,abG,hlo⟩:=ai.1 hlo
  obtain ⟨rs,hrs,h'⟩:=ai.1 h'
  obtain ⟨t,ht,h'⟩:=ai.1 h'
  obtain ⟨co,hco,h'⟩:=ai.1 h'
  obtain ⟨cor,abI,hco⟩:=ai.1 hco
  obtain ⟨us,zU,h'⟩:=ai.1 h'
  cases h'
  obtain ⟨rfl,abJ⟩:=nU hk
  obtain ⟨rfl,abK⟩:=nU hp
  obtain ⟨rfl,abL⟩:=nU hrs
  obtain ⟨rfl,abM⟩:=nU ht
  obtain ⟨h1,h2⟩:=Qk zU
  refine ⟨by simp [h1];omega,fun i u hu=>?_⟩
  cases i with
  | zero =>
   simp at hu;subst hu
   exact ⟨⟨rfl,abJ⟩,⟨rfl,abK⟩,⟨c,lor,rfl,abG,hlo⟩,⟨rfl,abL⟩,⟨rfl,abM⟩,⟨f,cor,rfl,abI,hco⟩⟩
  | succ i =>
   simp at hu
   have:=h2 i u hu
   have e6:=abF (.int .i64 k) (.int .i64 p) c (.int .i64 rs) (.int .i64 t) f l i
   exact ⟨⟨(e6 0).trans this.kind.1,this.kind.2⟩,⟨(e6 1).trans this.params.1,this.params.2⟩,this.locals.elim fun v h3=>h3.elim fun r h4=>⟨v,r,(e6 2).trans h4.1,h4.2⟩,
    ⟨(e6 3).trans this.result.1,this.result.2⟩,⟨(e6 4).trans this.takes.1,this.takes.2⟩,this.code.elim fun v h3=>h3.elim fun r h4=>⟨v,r,(e6 5).trans h4.1,h4.2⟩⟩
theorem Iw.int {φ:Ph}{w:World}{z:Nat}{l:List Value}{v':Value}{a:Option Addr}{n c:Nat}(h:Iw φ w z l v' a n c){j:Nat}{x:Int}(hx:l[j]?=some (.int .i64 x)) :
  ∃ b off,a=some ⟨b,off,none⟩∧b < w.heap.size∧w.cell? ⟨b,off+j,none⟩=some (.int .i64 x):=by
 obtain ⟨b,off,y,h1,h2,h3,h4⟩:=h.cell j _ hx
 have:=Qg h3
 subst this
 exact ⟨b,off,h1,h2,h4⟩
theorem abN {φ:Ph}{h:Hp}{w:World}{v v':Value}{m:Vf.Md}(hm:CR h v=some m)(hv:VA φ v v')(r:Rel φ h w)(hf:m.boxes.length≤1000000∧m.units.length≤1000000∧∀ u ∈ m.units,u.locals.length≤1000000∧u.code.length≤1000000) :
  ∃ ab au cb cu,v'=.agg #[.slice ab m.boxes.length cb,.slice au m.units.length cu]∧bn w.heap.size w m ab au:=by
 unfold CR at hm
 obtain ⟨a,rfl,hm2⟩:=GL.1 hm
 clear hm
 obtain ⟨c',rfl,hL⟩:∃ c',v'=.agg c'∧L (V1 φ) a.toList c'.toList:=by
  rcases hv with (h | ⟨_,_,_,_,_,h,_⟩) | ⟨c,c',h1,h2,h3⟩
  ·exact h.elim
  ·cases h
  ·cases h1;exact ⟨c',h2,h3⟩
 rw [bF] at hm2
 split at hm2
 ·rename_i b u hbu
  rw [hbu] at hL
  obtain ⟨bs,hbs,hm⟩:=ai.1 hm2
  obtain ⟨rb,hrb,hbs⟩:=ai.1 hbs
  obtain ⟨us,zU,hm⟩:=ai.1 hm
  obtain ⟨ru,hru,zU⟩:=ai.1 zU
  cases hm
  cases c' with
  | mk cl =>
  cases cl with
  | nil=>exact hL.elim
  | cons b' cl =>
  cases cl with
  | nil=>exact hL.2.elim
  | cons u' cl =>
  cases cl with
  | cons _ _=>exact hL.2.2.elim
  | nil =>
  obtain ⟨ab,nb,cb,RB⟩:=CS hrb hL.1 r
  obtain ⟨au,nu,cu,RU⟩:=CS hru hL.2.1 r
  obtain ⟨lb,hb⟩:=Qi hbs
  obtain ⟨lu,hu⟩:=Qk zU
  have enb:nb=bs.length:=by have:=RB.len;omega
  have enu:nu=us.length:=by have:=RU.len;omega
  subst enb;subst enu
  refine ⟨ab,au,cb,cu,by rw [RB.val,RU.val],⟨by omega,by omega⟩,?_,?_⟩
  ·intro i x hx
   obtain ⟨h1,h2,h3,h4⟩:=hb i x hx
   obtain ⟨b,off,rfl,hlt,hc1⟩:=RB.int h1
   obtain ⟨b2,sM,he,_,hc2⟩:=RB.int h2
   cases he
   exact ⟨h3,h4,b,off,rfl,hlt,hc1,by rw [Nat.add_assoc];exact hc2⟩
  ·intro i x hx
   have hU:=hu i x hx
   have hsz:=hf.2.2 x (List.mem_of_getElem? hx)
   obtain ⟨b,off,rfl,hlt,hc1⟩:=RU.int hU.kind.1
   obtain ⟨b2,sM,he,_,hc2⟩:=RU.int hU.params.1
   cases he
   obtain ⟨b3,abR,he,_,hc3⟩:=RU.int hU.result.1
   cases he
   obtain ⟨b4,aeb,he,_,hc4⟩:=RU.int hU.takes.1
   cases he
   obtain ⟨vl,rl,hvl,hrl,hil⟩:=hU.locals
   obtain ⟨vc,rc,yO,hrc,hic⟩:=hU.code
   obtain ⟨b5,aec,yl,he,_,hVl,qh⟩:=RU.cell _ _ hvl
   cases he
   obtain ⟨b6,aed,yc,he,_,hVc,hc6⟩:=RU.cell _ _ yO
   cases he
   obtain ⟨al,nl,cl,RL⟩:=CS hrl hVl r
   obtain ⟨ac,nc,cc,RC⟩:=CS hrc hVc r
   obtain ⟨ll,hl⟩:=Qh hil
   obtain ⟨lc,hc⟩:=Qj hic
   have enl:nl=x.locals.length:=by have:=RL.len;omega
   have enc:nc=x.code.length:=by have:=RC.len;omega
   subst enl;subst enc
   refine ⟨b,off,al,cl,ac,cc,rfl,hlt,⟨⟨hU.kind.2,hU.params.2,hU.result.2,hU.takes.2⟩,⟨by omega,by omega⟩,⟨RL.le,RC.le⟩,?_,?_⟩,hc1,by rw [Nat.add_assoc];exact hc2,by rw [Nat.add_assoc,qh,RL.val],by rw [Nat.add_assoc];exact hc3,by rw [Nat.add_assoc];exact hc4,by rw [Nat.add_assoc,hc6,RC.val]⟩
   ·intro j y hy
    obtain ⟨h1,h2⟩:=hl j y hy
    obtain ⟨b,off,rfl,hlt,hcc⟩:=RL.int h1
    exact ⟨h2,b,off,rfl,hlt,hcc⟩
   ·intro j y hy
    obtain ⟨h1,h2,h3,h4,h5,h6⟩:=hc j y hy
    obtain ⟨b,off,rfl,hlt,abV⟩:=RC.int h1
    obtain ⟨b2,sM,he,_,abW⟩:=RC.int h2
    cases he
    obtain ⟨b3,abR,he,_,abX⟩:=RC.int h3
    cases he
    exact ⟨h4,h5,h6,b,off,rfl,hlt,abV,by rw [Nat.add_assoc];exact abW,by rw [Nat.add_assoc];exact abX⟩
 ·cases hm2
end Xe
end Go.Proofs.YthffafaoobpedaaGreatDoor
