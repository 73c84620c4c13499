/-
 DERIVED: THE SHELF's CONTRACTS AT THIS DUMP,IN PLAIN WORDS (tools/lay-plain.mjs out of 'TryzShelf.lean',which tools/lay-shelf.mjs wrote): THE SAME DECLARATIONS UNDER THE SAME NAMES: 'import','namespace','open','def','theorem' AND NOTHING ELSE: no command of the shelf's: FOR A HAND-IN. Each laying: the table of numbers ('.._ren') and one theorem,a field a fact of the dump's own or the kernel's comparison;each contract: ONE APPLICATION.
-/
import Derived.Shelf.Small.Strs
import Derived.Shelf.LaysM
import Derived.Shelf.Strconv.Clone
import Derived.Shelf.Strings.Search1
import Derived.Shelf.Slices.Turned
import Derived.Ground.Names2Prog
import Derived.Shelf.Slices.Delete
import Derived.Shelf.Slices.Cells
import Derived.Shelf.Slices.Empties
import Derived.Test.YtfcpglhpolpdcaaGreatDoorProg
import Derived.Test.YtfcpglhpolpdcaaGreatDoorM43
import Derived.WalkSpells
import Derived.WalkLawsBesides
import Derived.Deep.QuietTactic
import Derived.BigQuiet
import Derived.Recover
import Derived.KernelRfl
set_option maxRecDepth 100000
set_option maxHeartbeats 400000
namespace Go.Proofs
open Go.Shelf
def Tryz.aez:Go.Shelf.Ren:=⟨fun | 137=>193 | 217=>210 | 266=>219 | n=>n,fun | 9=>9 | 5=>5 | 3=>3 | n=>n,fun | n=>n⟩
theorem Tryz.aeA:Go.Proofs.Lays.n137 Tryz.prog Tryz.aez:={
 mixed:=by kernel_rfl
 f137:=Tryz.func193.trans (congrArg some (by kernel_rfl))
 f217:=Tryz.func210.trans (congrArg some (by kernel_rfl))
 f266:=Tryz.func219.trans (congrArg some (by kernel_rfl))
 t3:=Tryz.underlying3
 a3:=Tryz.isAgg3
 z3:=Tryz.sizeOf3
 v3:=Tryz.zeroValue3
 t5:=Tryz.underlying5
 a5:=Tryz.isAgg5
 z5:=Tryz.sizeOf5
 v5:=Tryz.zeroValue5
 t9:=Tryz.underlying9
 a9:=Tryz.isAgg9
 z9:=Tryz.sizeOf9
 v9:=Tryz.zeroValue9 }
open Go.RowKit in
theorem Tryz.strings_IndexByte (s:ByteArray)(c:Int)(w:World) :
  Calls Tryz.prog 193 #[.string s,.int .u8 c] w fun e w'=>e=.returned (.int .i64 (Lib.indexByte s.data.toList c.toNat.toUInt8))∧w'=w:=Any.strings_IndexByte Tryz.aeA s c w
def Tryz.aeB:Go.Shelf.Ren:=⟨fun | 316=>90 | n=>n,fun | 9=>9 | 3=>3 | 4=>4 | 37=>243 | 0=>0 | 127=>244 | 5=>5 | n=>n,fun | n=>n⟩
theorem Tryz.aeC:Go.Proofs.LaysM.n316 Tryz.prog Tryz.aeB:={
 mixed:=by kernel_rfl
 f316:=Tryz.func90.trans (congrArg some (by kernel_rfl))
 t0:=Tryz.underlying0
 a0:=Tryz.isAgg0
 z0:=Tryz.sizeOf0
 v0:=Tryz.zeroValue0
 t3:=Tryz.underlying3
 a3:=Tryz.isAgg3
 z3:=Tryz.sizeOf3
 v3:=Tryz.zeroValue3
 t4:=Tryz.underlying4
 a4:=Tryz.isAgg4
 z4:=Tryz.sizeOf4
 v4:=Tryz.zeroValue4
 t9:=Tryz.underlying9
 a9:=Tryz.isAgg9
 z9:=Tryz.sizeOf9
 v9:=Tryz.zeroValue9
 t37:=Tryz.underlying243
 a37:=Tryz.isAgg243
 z37:=Tryz.sizeOf243
 v37:=Tryz.zeroValue243
 t127:=Tryz.underlying244
 a127:=Tryz.isAgg244
 z127:=Tryz.sizeOf244
 v127:=Tryz.zeroValue244
 t5:=Tryz.underlying5
 a5:=Tryz.isAgg5
 z5:=Tryz.sizeOf5
 v5:=Tryz.zeroValue5
 i0:=by kernel_rfl
 i3:=by kernel_rfl
 i4:=by kernel_rfl
 i5:=by kernel_rfl
 i9:=by kernel_rfl
 i37:=by kernel_rfl
 i127:=by kernel_rfl }
open Go.RowKit in
theorem Tryz.stringslite_Clone (s:ByteArray)(w:World)(hlim:s.size≤281474976710656) :
  Calls Tryz.prog 90 #[.string s] w fun e w'=>e=.returned (.string s)∧Below w.heap.size w w':=Any.stringslite_Clone Tryz.aeC s w hlim
def Tryz.aeD:Go.Shelf.Ren:=⟨fun | 24=>28 | n=>n,fun | 24=>49 | 9=>9 | 3=>3 | 4=>4 | 0=>0 | n=>n,fun | n=>n⟩
theorem Tryz.aeE:Go.Proofs.Lays2.n24 Tryz.prog Tryz.aeD:={
 mixed:=by kernel_rfl
 f24:=Tryz.func28.trans (congrArg some (by kernel_rfl))
 t0:=Tryz.underlying0
 a0:=Tryz.isAgg0
 z0:=Tryz.sizeOf0
 v0:=Tryz.zeroValue0
 t3:=Tryz.underlying3
 a3:=Tryz.isAgg3
 z3:=Tryz.sizeOf3
 v3:=Tryz.zeroValue3
 t4:=Tryz.underlying4
 a4:=Tryz.isAgg4
 z4:=Tryz.sizeOf4
 v4:=Tryz.zeroValue4
 t9:=Tryz.underlying9
 a9:=Tryz.isAgg9
 z9:=Tryz.sizeOf9
 v9:=Tryz.zeroValue9
 t24:=Tryz.underlying49
 a24:=Tryz.isAgg49
 z24:=Tryz.sizeOf49
 v24:=Tryz.zeroValue49
 i9:=by kernel_rfl }
open Go.RowKit Go.Lib Go.Sort in
theorem Tryz.slices_Delete_string_cells (b off n c i j:Nat)(Sx:Nat→ByteArray)(w:World)(hcap:n≤c)(hm:c≤9223372036854775807)(hij:i≤j)(hj:j≤n)(hc:∀ i,i<n→w.cell? ⟨b,off+i,none⟩=some (.string (Sx i)))(hf:∀ j,j<n→w.frozen? ⟨b,off+j,none⟩=false) :
  Calls Tryz.prog 28 #[.slice (some ⟨b,off,none⟩) n c,.int .i64 i,.int .i64 j] w fun e w'=>e=.returned (.slice (some ⟨b,off,none⟩) (n - (j - i)) c)∧∃ q,w'=(w.drewN q).setCells b off (((Lib.strsOf Sx n).take i++(Lib.strsOf Sx n).drop j++List.replicate (j - i) []).map encStr):=Any.slices_Delete_string_cells Tryz.aeE b off n c i j Sx w hcap hm hij hj hc hf
end Go.Proofs
/- The calls that our machine takes as a whole: strings.Clone,throw.Caught,strings.IndexByte. -/
namespace Go.Proofs.YtfcpglhpolpdcaaGreatDoor
open Go.RowKit
namespace Xe
theorem Post.grown {φ:Ph}{s:S}{w w':World}(h:dG φ s w)(hb:Below w.heap.size w w'):Post φ s w φ s w':=by
 refine⟨⟨⟨fun x o hx=>(h.rel.obj x o hx).mono (Sub.refl φ) fun g hg=>hb.block g.b (h.rel.bnd x g hg),h.rel.inj,fun x g hx=>Nat.lt_of_lt_of_le (h.rel.bnd x g hx) hb.size,h.rel.lN⟩,h.fr⟩,⟨Sub.refl φ,hb.size,fun x g h0 h1=>?_,fun b hb' _=>hb.block b hb',⟨hb.os,hb.tape,hb.output⟩⟩,Nat.le_refl _,fun _ h0 h1=>(h1 h0).elim,fun _ hx=>.inl hx⟩;rw[h0] at h1;cases h1
theorem TD (c:Nat)(hc:c≤255):∀ (l:List UInt8) (i:Nat),sJ c l i=if Lib.indexByte l c.toUInt8=-1 then -1 else Lib.indexByte l c.toUInt8+i
 | [],i=>rfl
 | b :: l,i=>by
  have ih:=TD c hc l (i+1);have hbc:Nat.beq b.toNat c=(b==c.toUInt8):=by
   rw[dV,Bool.eq_iff_iff,beq_iff_eq,decide_eq_true_eq];constructor
   ·intro h
    apply UInt8.toNat_inj.1;rw[h];simp[Nat.toUInt8];omega
   ·rintro rfl
    simp[Nat.toUInt8];omega
  have hpos:∀ l:List UInt8,-1≤Lib.indexByte l c.toUInt8:=by
   intro l;induction l with
   | nil=>simp[Lib.indexByte]
   | cons b l ih =>
    unfold Lib.indexByte;split
    ·omega
    ·split
     ·omega
     ·omega
  have hp:=hpos l;have e1:sJ c (b :: l) i=match Nat.beq b.toNat c with | true=>.ofNat i | false=>sJ c l (Nat.succ i):=rfl
  rw[e1,hbc];unfold Lib.indexByte;cases hb:(b==c.toUInt8) with
  | true=>simp
  | false =>
   simp only[Bool.false_eq_true,if_false];rw[show sJ c l (Nat.succ i)=sJ c l (i+1) from rfl,ih];by_cases h1:Lib.indexByte l c.toUInt8=-1
   ·simp[h1]
   ·have hb1:(Lib.indexByte l c.toUInt8==-1)=false:=by simpa using h1
    have h2:¬ Lib.indexByte l c.toUInt8+1=-1:=by omega
    rw[if_neg h1,hb1];simp only[Bool.false_eq_true,if_false];rw[if_neg h2];push_cast
    omega
theorem setCell_eq {w:World}{b o:Nat}{v:Value}(h:w.cell? ⟨b,o,none⟩=some v):w.setCell ⟨b,o,none⟩ v=w:=by
 obtain⟨heap,tape,drawn,os,output⟩:=w;simp only[World.setCell];congr 1
 apply Array.ext_getElem?;intro k;rw[Array.getElem?_modify];split
 ·rename_i e
  have e':b=k:=e;subst e';simp only[World.cell?] at h;cases hb:heap[b]? with
  | none=>rfl
  | some ob =>
   rw[hb] at h;cases ob with
   | cells cs t fr =>
    simp only[Option.map_some,Option.some.injEq];have h':cs[o]?=some v:=h;congr 1
    simp only[Option.isSome_none,Bool.false_eq_true,if_false];apply Array.ext_getElem?;intro j;rw[Array.getElem?_setIfInBounds];split
    ·rename_i ej
     have ej':o=j:=ej;subst ej';split
     ·exact h'.symm
     ·rename_i hlt
      rw[Array.getElem?_eq_none (by omega)]
    ·rfl
   | _=>first | rfl | simp at h
 ·rfl
theorem Ii (F:Nat)(w:World) :
  CallsD Tryz.prog 41 #[.pointer (some ⟨F,0,none⟩)] .returning w fun e u' w'=>e=.returned (.tuple #[])∧u'=.returning∧w'=w:=by
 refine callsD_of_wpS Tryz.func41 rfl fun c₀ cs hu=>?_;apply wpS_seq;apply wpS_region;simp[wpOpsS,go_sem,recoverD,hu,Tryz.ntmps41,Exit.thenS];apply wpS_seq;apply wpS_region;simp[wpOpsS,go_sem,Exit.thenS];refine wpS_cond (t:=false) (by simp[Act.eval,Array.replicate]) ?_;simp only[Bool.false_eq_true,if_false];refine wpS_of_wp (wp_skip ?_);cases c₀;simp_all [bodyPostS,results,Tryz.results41]
abbrev Z2:Obj:=.cells #[.int .i64 0,.int .i64 0] 46 (0,0)
theorem TE {w:World}{b:Nat}(h:w.heap[b]?=some Z2) :
  w.cell? ⟨b,0,none⟩=some (.int .i64 0)∧w.cell? ⟨b,1,none⟩=some (.int .i64 0)∧w.frozen? ⟨b,0,none⟩=false∧w.frozen? ⟨b,1,none⟩=false:=by simp[World.cell?,World.frozen?,h]
theorem aeG (g:FuncId)(cap:Array Value)(X:World→Prop)(w:World)(hcf:∀ w:World,(callFunc g cap).run Tryz.prog w=.ok (.enter g cap) w)
  (hw:Calls Tryz.prog g cap (w.alloc Z2) fun e w'=>X w'∧w'.heap[w.heap.size]?=some Z2∧e=.returned (.tuple #[])) :
  Calls Tryz.prog 19 #[.func (.func g) #[] cap] w fun e w'=>e=.returned (.agg #[.int .i64 0,.int .i64 0])∧∃ wx,X wx∧wx.heap[w.heap.size]?=some Z2∧w'=(wx.setCell ⟨w.heap.size,0,none⟩ (.int .i64 0)).setCell ⟨w.heap.size,1,none⟩ (.int .i64 0):=by
 have um:∀ (fn:Fn) (first cap:Array Value) (w:World),(Instr.makeFunc fn first cap).run Tryz.prog w=.ok (.func fn first cap) w:=fun _ _ _ _=>rfl;go_enter_defers Tryz.func19,Tryz.ntmps19
 go_wp2_with fail
 refine hw.mono ?_;rintro e w1 ⟨hX,hF,rfl⟩;obtain⟨c0,c1,f0,f1⟩:=TE hF;have HX:Hid (X w1):=hX;have HF:Hid (w1.heap[w.heap.size]?=some Z2):=hF;clear hX hF hw;go_wp2
 refine leaves_cons (f:=41) (args:=#[.pointer (some ⟨w.heap.size,0,none⟩)]) (by simp) (by simp[go_sem]) ?_;refine (Ii w.heap.size _).mono ?_;rintro e u' w'' ⟨rfl,rfl,rfl⟩;show Leaves _ _ _ _ [] .returning _
 exact⟨.agg #[.int .i64 0,.int .i64 0],by simp[results,Tryz.results19,go_sem,c0,c1],rfl,w1,HX.out,HF.out,rfl⟩
theorem E9:jm Tryz.prog:=by
 have h:(Tryz.prog.funcs.toList.all fun fn=>!(fn.name == "runtime.NumGoroutine"))=true:=by kernel_rfl
 intro f fn hf;rw[List.all_eq_true] at h;have:=h fn (by have:=Array.mem_of_getElem? hf;simpa using this);simpa using this
theorem KG {α β:Type}{R:α→β→Prop}{x:α}{l:List β}(h:L R [x] l):∃ y,l=[y]∧R x y:=by
 cases l with
 | nil=>exact h.elim
 | cons y l =>
  cases l with
  | nil=>exact⟨y,rfl,h.1⟩
  | cons z l=>exact h.2.elim
theorem TF {α:Type}{a:Array α}{l:List α}(h:a.toList=l):a=l.toArray:=by cases a;simp at h;simp[h]
theorem aeH:Kh Tryz.prog (iJ 90 19 193):=by
 intro call hC f args s v s' h;unfold iJ at h;rw[bT,bT,bT,dV,dV,dV] at h;split at h
 ·rename_i hf
  have hf:f=90:=by simpa using hf
  subst hf;have h':=Option.some.inj h;unfold RJ at h';split at h'
  ·rename_i b
   rw[aN,dW] at h';obtain⟨hb,h'⟩:=h';cases h';refine⟨rfl,⟨_,_,Tryz.func90,rfl⟩,fun φ w args' hL hS=>?_⟩;obtain⟨y,hy,hV⟩:=KG hL;have:=sN hV;subst this;rw[TF hy];refine (Tryz.stringslite_Clone b w ?_).mono ?_
   ·have hb':(sL b).length≤1000000:=by simpa using hb
    have e:(sL b).length=b.size:=by cases b with | mk d=>cases d;rfl
    omega
   ·rintro e w' ⟨rfl,hb⟩
    exact⟨φ,_,rfl,V.dU rfl,Post.grown hS hb⟩
  ·cases h'
 ·split at h
  ·rename_i _ hf
   have hf:f=19:=by simpa using hf
   subst hf;have h':=Option.some.inj h;unfold RL at h';split at h'
   ·rename_i g fs cap
    cases fs with
    | mk fl =>
    cases fl with
    | cons a l=>cases h'
    | nil =>
    obtain⟨⟨v1,s1⟩,hc,h'⟩:=aj.1 h';rw[gQ] at h';obtain⟨a1,rfl,h'⟩:=RU.1 h';cases a1 with
    | mk al =>
    cases al with
    | cons a l=>cases h'
    | nil =>
    have h2:some (Value.agg #[.int .i64 0,.int .i64 0],s1)=some (v,s'):=h';cases h2;obtain⟨hds,hbd,hcall⟩:=hC g (aL cap) s _ _ hc;refine⟨hds,⟨_,_,Tryz.func19,rfl⟩,fun φ w args' hL hS=>?_⟩;obtain⟨y,hy,hV⟩:=KG hL;obtain⟨f2,c2,rfl,hL1,hL2⟩:∃ f2 c2,y=.func (.func g) f2 c2∧L (V0 φ) [] f2.toList∧L (V0 φ) cap.toList c2.toList:=by
     rcases hV with ((h | ⟨fn,f,c,f',c',h1,h2,h3,h4⟩) | ⟨_,_,h,_⟩) | ⟨_,_,h,_⟩
     ·exact h.elim
     ·cases h1;exact⟨f',c',h2,h3,h4⟩
     ·cases h
     ·cases h
    have hf2:f2=#[]:=by
     cases f2 with
     | mk l=>cases l with
      | nil=>rfl
      | cons _ _=>exact hL1.elim
    subst hf2;rw[TF hy];have hG:=Post.grown hS (Below.alloc (Below.refl _ w) (Nat.le_refl _) Z2);refine (aeG g c2 (fun w'=>∃ φ',Post φ s (w.alloc Z2) φ' s' w') w (EI E9 hbd c2) ?_).mono ?_
    ·refine (hcall φ (w.alloc Z2) c2 (by rw[bK];exact hL2.mono fun _ _=>V.dU) hG.stt).mono ?_
     rintro e w' ⟨φ',v',rfl,hv,hP⟩;refine⟨⟨φ',hP⟩,?_,?_⟩
     ·rw[hP.ext.kept w.heap.size (by simp) ?_]
      ·exact heap_alloc_new w Z2
      ·intro x g _ hx hg he
       have:=hS.rel.bnd x g hg;omega
     ·have:v'=.tuple #[]:=by
       rcases hv with ((h | ⟨fn,f,c,f',c',h1,_⟩) | ⟨_,_,h,_⟩) | ⟨c,c',h1,h2,h3⟩
       ·exact h.elim
       ·cases h1
       ·cases h
       ·cases h1
        cases c' with
        | mk l=>cases l with
         | nil=>exact h2
         | cons _ _=>exact h3.elim
      rw[this]
    ·rintro e w' ⟨rfl,wx,⟨φ',hP⟩,hz,rfl⟩
     obtain⟨c0,c1,_,_⟩:=TE hz;rw[setCell_eq c0,setCell_eq c1];exact⟨φ',_,rfl,.inl (.inr ⟨_,_,rfl,rfl,.inl rfl,.inl rfl,trivial⟩),hG.trans hS hP⟩
   ·cases h'
  ·split at h
   ·rename_i _ _ hf
    have hf:f=193:=by simpa using hf
    subst hf;have h':=Option.some.inj h;unfold RN at h';split at h'
    ·rename_i b c
     rw[aN,dW] at h';obtain⟨hc,h'⟩:=h';cases h';have hc:c≤255:=by simpa using hc
     refine⟨rfl,⟨_,_,Tryz.func193,rfl⟩,fun φ w args' hL hS=>?_⟩;have hargs:args'=#[.string b,.int .u8 (.ofNat c)]:=by
      cases args' with
      | mk l =>
      cases l with
      | nil=>exact hL.elim
      | cons y l =>
       obtain⟨z,hz,hzV⟩:=KG hL.2;have h1:=sN hL.1;have h2:=nD hzV;subst h1;subst h2;rw[hz]
     rw[hargs];refine (Tryz.strings_IndexByte b (.ofNat c) w).mono ?_;rintro e w' ⟨rfl,rfl⟩;refine⟨φ,_,rfl,V.dU ?_,Post.refl hS⟩;show _=Value.int .i64 (sJ c (sL b) 0)
     rw[TD c hc];have e2:sL b=b.data.toList:=by cases b with | mk d=>cases d;rfl
     rw[e2];have e3:(Int.ofNat c).toNat.toUInt8=c.toUInt8:=rfl;rw[e3];congr 1
     split
     ·rename_i h;exact h
     ·simp
    ·cases h'
   ·cases h
end Xe
namespace Xe
noncomputable section
def sv (l:List UInt8):Value:=.string ⟨⟨l⟩⟩
def iv (n:Int):Value:=.int .i64 n
def sP:List Value:=[iv 18,sv [111,114],iv 1,iv 17,sv [97,110,100],iv 2,iv 11,sv [61,61],iv 3,iv 12,sv [33,61],iv 3,iv 13,sv [60],iv 3,iv 14,sv [60,61],iv 3,iv 15,sv [62],iv 3,iv 16,sv [62,61],iv 3,iv 6,sv [43],iv 4,iv 7,sv [45],iv 4,iv 8,sv [42],iv 5,iv 9,sv [47],iv 5,iv 10,sv [37],iv 5]
def wD:List Value:=[iv 2,sv []]
def wE:List Value:=[iv 1,sv []]
def h0:Hp:=fun x=>bB (Nat.beq x 0) (some (.cells ⟨sP⟩ 0)) (bB (Nat.beq x 1) (some (.cells ⟨wD⟩ 0)) (bB (Nat.beq x 2) (some (.cells ⟨wE⟩ 0)) none))
def s0:S:=⟨10,h0,[]⟩
def fn:Cl:=func Tryz.prog (iJ 90 19 193) 60 false
end
structure pM (w:World):Prop where
 pairs:∃ e fr,w.heap[0]?=some (.cells ⟨sP⟩ e fr)
 truth:∃ e fr,w.heap[1]?=some (.cells ⟨wD⟩ e fr)
 num:∃ e fr,w.heap[2]?=some (.cells ⟨wE⟩ e fr)
theorem pM.below {w w':World}(h:pM w)(hb:Below w.heap.size w w'):pM w':=by
 obtain⟨⟨e0,f0,h0⟩,⟨e1,f1,h1⟩,⟨e2,f2,h2⟩⟩:=h;have l:∀ {b:Nat} {o:Obj},w.heap[b]?=some o→w'.heap[b]?=some o:=fun {b o} h=>(hb.block b (Array.getElem?_eq_some_iff.1 h).1).trans h;exact⟨⟨e0,f0,l h0⟩,⟨e1,f1,l h1⟩,⟨e2,f2,l h2⟩⟩
def sQ:Ph:=fun x=>if x=0 then some ⟨0,39⟩ else if x=1 then some ⟨1,2⟩ else if x=2 then some ⟨2,2⟩ else none
theorem KH {x:Nat}{o:Obj}(h:h0 x=some o):(x=0∧o=.cells ⟨sP⟩ 0)∨(x=1∧o=.cells ⟨wD⟩ 0)∨(x=2∧o=.cells ⟨wE⟩ 0):=by
 unfold h0 at h;rw[bT,bT,bT,dV,dV,dV] at h;split at h
 ·rename_i e;cases h;exact .inl ⟨by simpa using e,rfl⟩
 ·split at h
  ·rename_i e;cases h;exact .inr (.inl ⟨by simpa using e,rfl⟩)
  ·split at h
   ·rename_i e;cases h;exact .inr (.inr ⟨by simpa using e,rfl⟩)
   ·cases h
theorem KI (φ:Ph):∀ (l:List Value),(∀ v ∈ l,(∃ n,v=iv n)∨∃ b,v=sv b)→L (V1 φ) l l:=fun l h=>L.refl l fun v hv=>by
 rcases h v hv with⟨n,rfl⟩ | ⟨b,rfl⟩<;>exact .inl rfl
theorem aeJ {w:World}(h:pM w):dG sQ s0 w:=by
 obtain⟨⟨e0,f0,q0⟩,⟨e1,f1,q1⟩,⟨e2,f2,q2⟩⟩:=h;have b0:=(Array.getElem?_eq_some_iff.1 q0).1;have b1:=(Array.getElem?_eq_some_iff.1 q1).1;have b2:=(Array.getElem?_eq_some_iff.1 q2).1;have hk:∀ l:List Value,(l=sP∨l=wD∨l=wE)→∀ v ∈ l,(∃ n,v=iv n)∨∃ b,v=sv b:=by
  intro l hl v hv;rcases hl with rfl | rfl | rfl
  ·simp only[sP,List.mem_cons,List.not_mem_nil,or_false] at hv
   rcases hv with h | h | h | h | h | h | h | h | h | h | h | h | h | h | h | h | h | h | h | h | h | h | h | h | h | h | h | h | h | h | h | h | h | h | h | h | h | h | h<;>first | exact .inl ⟨_,h⟩ | exact .inr ⟨_,h⟩
  ·simp only[wD,List.mem_cons,List.not_mem_nil,or_false] at hv
   rcases hv with h | h<;>first | exact .inl ⟨_,h⟩ | exact .inr ⟨_,h⟩
  ·simp only[wE,List.mem_cons,List.not_mem_nil,or_false] at hv
   rcases hv with h | h<;>first | exact .inl ⟨_,h⟩ | exact .inr ⟨_,h⟩
 refine⟨⟨?_,?_,?_,?_⟩,?_⟩
 ·intro x o hx
  rcases KH hx with⟨rfl,rfl⟩ | ⟨rfl,rfl⟩ | ⟨rfl,rfl⟩
  ·exact⟨⟨0,39⟩,⟨sP⟩,e0,f0,rfl,q0,rfl,fun h=>absurd h (by omega),Nat.le_refl _,KI _ _ (hk _ (.inl rfl))⟩
  ·exact⟨⟨1,2⟩,⟨wD⟩,e1,f1,rfl,q1,rfl,fun h=>absurd h (by omega),Nat.le_refl _,KI _ _ (hk _ (.inr (.inl rfl)))⟩
  ·exact⟨⟨2,2⟩,⟨wE⟩,e2,f2,rfl,q2,rfl,fun h=>absurd h (by omega),Nat.le_refl _,KI _ _ (hk _ (.inr (.inr rfl)))⟩
 ·rintro x y g g' ⟨o,hx,_⟩ ⟨o',hy,_⟩ h1 h2 e
  rcases KH hx with⟨rfl,_⟩ | ⟨rfl,_⟩ | ⟨rfl,_⟩<;>rcases KH hy with⟨rfl,_⟩ | ⟨rfl,_⟩ | ⟨rfl,_⟩<;>first | rfl | (cases h1;cases h2;cases e)
 ·intro x g hx
  unfold sQ at hx;split at hx
  ·cases hx;exact b0
  ·split at hx
   ·cases hx;exact b1
   ·split at hx
    ·cases hx;exact b2
    ·cases hx
 ·intro x hx
  have:x=0∨x=1∨x=2:=by omega
  rcases this with rfl | rfl | rfl
  ·exact⟨39,rfl⟩
  ·exact⟨2,rfl⟩
  ·exact⟨2,rfl⟩
 ·intro x hx
  have hx':10≤x:=hx;unfold sQ;rw[if_neg (by omega),if_neg (by omega),if_neg (by omega)]
end Xe
end Go.Proofs.YtfcpglhpolpdcaaGreatDoor
