/- The small methods of a look and of a body. -/
import Derived.Test.YtbioaoangfiijaaGreatDoorM3
import Derived.Test.YtbioaoangfiijaaGreatDoorM4
import Derived.WalkSpells
import Derived.WalkLawsBesides
import Derived.Deep.QuietTactic
import Derived.BigQuiet
import Derived.Laws.AppendOwnNone
set_option maxRecDepth 100000
set_option maxHeartbeats 1000000
namespace Go.Proofs.YtbioaoangfiijaaGreatDoor
open Go.RowKit
namespace Sm
abbrev lkV (n:Nat) (a:Option Addr) (c M:Nat) (i:Int):Value:=.agg #[.slice a n c,.map (some M),.int .i64 i]
def Fe (num:Int) (r:Except Int Value) (w:World) (e:Ending) (w':World):Prop :=
 w.grownBy w' none ∧ e = match r with | .ok v => .returned v | .error er => .panicked [fltE er num]
theorem grown_a {w:World} (o:Obj):w.grownBy (w.alloc o) none:=⟨rfl,rfl,rfl,by simp,fun k hk _ => Below.heap_alloc _ _ _ (by omega)⟩
theorem list_beq (a b:ByteArray):(a.toList == b.toList) = decide (a = b):=by
 rw [Bool.eq_iff_iff]
 simp only [beq_iff_eq,decide_eq_true_eq]
 exact ⟨fun h => by
  rw [Lib.toList_data,Lib.toList_data] at h
  cases a; cases b; simp at h; rw [h],fun h => by rw [h]⟩
theorem grown_a2 {w:World} (o o':Obj):w.grownBy ((w.alloc o).alloc o') none:=grown_trans (grown_a o) (grown_a o')
theorem same_any (a b:Sy.Ty) (w:World) (r:Bool) (hr:Hid (r = Sm.same a b)) :
  Calls Tryz.prog 116 #[tyV a,tyV b] w fun e w' => e = .returned (.bool r) ∧ w.grownBy w' none:=by
 obtain ⟨ak,ag⟩:=a
 obtain ⟨bk,bg⟩:=b
 by_cases h1:ak = bk
 ·by_cases h2:ak = 3
  ·have HR:Hid ((ag.toList == bg.toList) = r):=by unfold Hid; rw [hr.out,list_beq]; simp [Sm.same,← h1,h2]
   clear hr
   go_enter Tryz.func116,Tryz.ntmps116
   go_wp2
   go_ret
   exact ⟨ret_bool HR.out,grown_a2 _ _⟩
  ·have HR:Hid (true = r):=by unfold Hid; rw [hr.out]; simp [Sm.same,← h1,h2]
   clear hr
   go_enter Tryz.func116,Tryz.ntmps116
   go_wp2
   go_ret
   exact ⟨ret_bool HR.out,grown_a2 _ _⟩
 ·have HR:Hid (false = r):=by unfold Hid; rw [hr.out]; simp [Sm.same,h1]
  clear hr
  go_enter Tryz.func116,Tryz.ntmps116
  go_wp2
  go_ret
  exact ⟨ret_bool HR.out,grown_a2 _ _⟩
theorem fail_any (n:Nat) (a:Option Addr) (c M:Nat) (i er:Int) (w:World) :
  Calls Tryz.prog 66 #[lkV n a c M i,.int .i64 er] w fun e w' => e = .panicked [fltE er i] ∧ w.grownBy w' none:=by
 go_enter Tryz.func66,Tryz.ntmps66
 go_wp2_with fail
 refine (throw_any i er _).mono ?_
 rintro e w1 ⟨rfl,_,rfl⟩
 go_wp2
 exact ⟨rfl,rfl,grown_a _⟩
theorem plain_any (n:Nat) (a:Option Addr) (c M:Nat) (i:Int) (t:Sy.Ty) (w:World) (r:Except Int Value) (hr:Hid (r = match Sm.plain t with | .ok _ => .ok (.tuple #[]) | .error e => .error e)) :
  Calls Tryz.prog 64 #[lkV n a c M i,tyV t] w fun e w' => Fe i r w e w':=by
 obtain ⟨tk,tg⟩:=t
 by_cases h:tk = 3
 ·have HR:Hid (r = .error 9):=by unfold Hid; rw [hr.out]; simp [Sm.plain,h]
  clear hr
  go_enter Tryz.func64,Tryz.ntmps64
  go_wp2_with fail
  refine (fail_any n a c M i 9 _).mono ?_
  rintro e w1 ⟨rfl,hg⟩
  have HE:Hid (Fe i r w (.panicked [fltE 9 i]) w1):=by
   refine ⟨grown_trans (grown_a2 _ _) hg,?_⟩
   rw [HR.out]
  clear hg
  go_wp2
  exact ⟨rfl,HE.out⟩
 ·have HR:Hid (r = .ok (.tuple #[])):=by unfold Hid; rw [hr.out]; simp [Sm.plain,h]
  clear hr
  go_enter Tryz.func64,Tryz.ntmps64
  go_wp2
  go_end0
  exact ⟨grown_a2 _ _,by rw [HR.out]⟩
theorem numOf_lt {l:List Sy.Df} {name:ByteArray} {i:Nat} (h:numOf l name = some i):i < l.length:=by
 have:=List.mem_of_find?_eq_some h
 simpa using this
theorem want_any (B:Nat) (l:List Sy.Df) (a:Option Addr) (c M:Nat) (num kind:Int) (name:ByteArray) (R:Ms.Row) (w:World) (r:Except Int Value) (hD:Hid (DfsIn B w l a)) (hB:B ≤ w.heap.size) (hM:Hid (Ms.In w M R)) (hR:Hid (∀ s,Ms.val R s = (numOf l s).map (fun i => .int .i64 (i:Int))))
  (hr:Hid (r = match Sm.want l kind name with | .ok i => .ok (.int .i64 (i:Int)) | .error e => .error e)) :
  Calls Tryz.prog 91 #[lkV l.length a c M num,.int .i64 kind,.string name] w fun e w' => Fe num r w e w':=by
 have hz:∀ w',(zeroValue 3).run Tryz.prog w' = .ok (.int .i64 0) w':=fun w' => by kernel_rfl
 have hL:=(Ms.run_lookup Tryz.underlying33 Tryz.underlying9 (k:=name) (hM.out.grow (grown_a (.cells #[.slice a l.length c,.map (some M),.int .i64 num] 93))) (hz _)).2
 rw [hR.out name] at hL
 cases hn:numOf l name with
 | none =>
  have HR:Hid (r = .error 7):=by unfold Hid; rw [hr.out]; simp [Sm.want,hn]
  rw [hn] at hL
  clear hr hn hz
  go_enter Tryz.func91,Tryz.ntmps91
  go_wp2_with fail
  refine (fail_any l.length a c M num 7 _).mono ?_
  rintro e w1 ⟨rfl,hg⟩
  have HE:Hid (Fe num r w (.panicked [fltE 7 num]) w1):=by
   refine ⟨grown_trans (grown_a _) hg,?_⟩
   rw [HR.out]
  clear hg
  go_wp2
  exact ⟨rfl,HE.out⟩
 | some i =>
  have hi:=numOf_lt hn
  rw [hn] at hL
  obtain ⟨b,off,pa,pc,ba,bc,rfl,hb,k0,_⟩:=hD.out.2 i l[i] (List.getElem?_eq_getElem hi)
  have hml:l.length ≤ maxLen:=hD.out.1
  have k0':(w.alloc (.cells #[.slice (some ⟨b,off,none⟩) l.length c,.map (some M),.int .i64 num] 93)).cell? ⟨b,off + i * 9,none⟩ = some (.int .i64 l[i].kind):=by
   rw [← k0]
   exact World.cell?_of_block (Below.heap_alloc _ _ _ (by dsimp; omega))
  obtain ⟨dk,hdk⟩:∃ dk,dk = l[i].kind:=⟨_,rfl⟩
  rw [← hdk] at k0'
  have hda:(defAt l i).kind = dk:=by rw [hdk]; simp [defAt,List.getElem?_eq_getElem hi]
  obtain ⟨L,hLn⟩:∃ L,L = l.length:=⟨_,rfl⟩
  rw [← hLn] at hi hml hL k0' ⊢
  by_cases hk:dk = kind
  ·have HR:Hid (r = .ok (.int .i64 (i:Int))):=by unfold Hid; rw [hr.out]; simp [Sm.want,hn,hda,hk]
   clear hr hn hz hda hdk k0 hLn
   simp only [Option.map_some,Option.getD_some,Option.isSome_some] at hL
   go_enter Tryz.func91,Tryz.ntmps91
   go_wp2
   go_ret
   exact ⟨grown_a _,by rw [HR.out]; rfl⟩
  ·have HR:Hid (r = .error 7):=by unfold Hid; rw [hr.out]; simp [Sm.want,hn,hda,hk]
   clear hr hn hz hda hdk k0 hLn
   simp only [Option.map_some,Option.getD_some,Option.isSome_some] at hL
   go_enter Tryz.func91,Tryz.ntmps91
   go_wp2_with fail
   refine (fail_any L _ c M num 7 _).mono ?_
   rintro e w1 ⟨rfl,hg⟩
   have HE:Hid (Fe num r w (.panicked [fltE 7 num]) w1):=by
    refine ⟨grown_trans (grown_a _) hg,?_⟩
    rw [HR.out]
   clear hg
   go_wp2
   exact ⟨rfl,HE.out⟩
abbrev bdO (n:Nat) (a:Option Addr) (c M:Nat) (num:Int) (T:Nat) (ord sn rc cl:Value):Obj :=
 .cells #[.slice a n c,.map (some M),.int .i64 num,.map (some T),ord,sn,rc,cl] 105 (0,0)
theorem bd_cells {w:World} {F n:Nat} {a:Option Addr} {c M:Nat} {num:Int} {T:Nat} {ord sn rc cl:Value} (h:w.heap[F]? = some (bdO n a c M num T ord sn rc cl)) :
  w.cell? ⟨F,0,none⟩ = some (.slice a n c) ∧ w.cell? ⟨F,1,none⟩ = some (.map (some M)) ∧ w.cell? ⟨F,2,none⟩ = some (.int .i64 num) ∧ w.cell? ⟨F,3,none⟩ = some (.map (some T)) ∧ w.cell? ⟨F,4,none⟩ = some ord ∧ w.cell? ⟨F,5,none⟩ = some sn ∧ w.cell? ⟨F,6,none⟩ = some rc ∧ w.cell? ⟨F,7,none⟩ = some cl:=by
 simp [World.cell?,h]
theorem bd_frozen {w:World} {F n:Nat} {a:Option Addr} {c M:Nat} {num:Int} {T:Nat} {ord sn rc cl:Value} (h:w.heap[F]? = some (bdO n a c M num T ord sn rc cl)) :
  w.frozen? ⟨F,4,none⟩ = false ∧ w.frozen? ⟨F,5,none⟩ = false ∧ w.frozen? ⟨F,6,none⟩ = false ∧ w.frozen? ⟨F,7,none⟩ = false:=by
 simp [World.frozen?,h]
theorem fits_any (F n:Nat) (a:Option Addr) (c M:Nat) (num:Int) (T:Nat) (ord sn rc cl:Value) (b:Bool) (w:World) (r:Except Int Value) (h:Hid (w.heap[F]? = some (bdO n a c M num T ord sn rc cl))) (hr:Hid (r = match Sm.fits b with | .ok _ => .ok (.tuple #[]) | .error e => .error e)) :
  Calls Tryz.prog 109 #[.pointer (some ⟨F,0,none⟩),.bool b] w fun e w' => Fe num r w e w':=by
 obtain ⟨c0,c1,c2,_⟩:=bd_cells h.out
 cases b with
 | false =>
  have HR:Hid (r = .error 8):=by unfold Hid; rw [hr.out]; rfl
  clear hr
  go_enter Tryz.func109,Tryz.ntmps109
  go_wp2_with fail
  refine (fail_any n a c M num 8 _).mono ?_
  rintro e w1 ⟨rfl,hg⟩
  have HE:Hid (Fe num r w (.panicked [fltE 8 num]) w1):=by
   refine ⟨hg,?_⟩
   rw [HR.out]
  clear hg
  go_wp2
  exact ⟨rfl,HE.out⟩
 | true =>
  have HR:Hid (r = .ok (.tuple #[])):=by unfold Hid; rw [hr.out]; rfl
  clear hr
  go_enter Tryz.func109,Tryz.ntmps109
  go_wp2
  go_end0
  exact ⟨grown_refl _ _,by rw [HR.out]⟩
def DfV (B:Nat) (w:World) (d:Sy.Df) (v:Value):Prop:=∃ pa pc ba bc,v = dfV d pa pc ba bc ∧ DfIn B w d pa ba
theorem def_any (B:Nat) (l:List Sy.Df) (a:Option Addr) (c M i:Nat) (d:Sy.Df) (w:World) (hD:Hid (DfsIn B w l a)) (hB:B ≤ w.heap.size) (hd:Hid (l[i]? = some d)) :
  Calls Tryz.prog 63 #[lkV l.length a c M (i:Int)] w fun e w' => w.grownBy w' none ∧ ∃ v,e = .returned v ∧ DfV B w d v:=by
 have hi:i < l.length:=(List.getElem?_eq_some_iff.1 hd.out).1
 obtain ⟨b,off,pa,pc,ba,bc,rfl,hb,k0,k1,k2,k3,k4,k5,k6,k7,k8,hdf⟩:=hD.out.2 i d hd.out
 have HD:Hid (DfIn B w d pa ba):=hdf
 have hml:l.length ≤ maxLen:=hD.out.1
 obtain ⟨L,hLn⟩:∃ L,L = l.length:=⟨_,rfl⟩
 rw [← hLn] at hi hml ⊢
 obtain ⟨W,hW⟩:∃ W,W = (w.alloc (.cells #[.slice (some ⟨b,off,none⟩) L c,.map (some M),.int .i64 (i:Int)] 93)).alloc (.cells #[.int .i64 0,.string ⟨#[]⟩,.int .i64 0,.string ⟨#[]⟩,.int .i64 0,.string ⟨#[]⟩,.int .i64 0,.slice none 0 0,.slice none 0 0] 39):=⟨_,rfl⟩
 have hc:∀ o,W.cell? ⟨b,o,none⟩ = w.cell? ⟨b,o,none⟩:=fun o => by
  rw [hW]
  exact World.cell?_of_block ((Below.heap_alloc _ _ _ (by simp; omega)).trans (Below.heap_alloc _ _ _ (by dsimp; omega)))
 rw [← hc] at k0 k1 k2 k3 k4 k5 k6 k7 k8
 subst hW
 clear hc hdf hLn hD hd
 go_enter Tryz.func63,Tryz.ntmps63
 go_wp2
 refine bodyPost_ret (v:=dfV d pa pc ba bc) (by simp [results,Tryz.results63,go_sem]) rfl ?_
 exact ⟨grown_a2 _ _,_,rfl,pa,pc,ba,bc,rfl,HD.out⟩
end Sm
namespace Sm
structure BK where
 l:List Sy.Df
 a:Option Addr
 c:Nat
 M:Nat
 num:Int
 T:Nat
 F:Nat
 B:Nat
 R:Ms.Row
abbrev BK.obj (K:BK) (ord sn rc cl:Value):Obj:=bdO K.l.length K.a K.c K.M K.num K.T ord sn rc cl
abbrev strs (v:Vars):List Value:=v.map (fun p => .string p.1)
abbrev nats (l:List Nat):List Value:=l.map (fun (n:Nat) => Value.int .i64 (n:Int))
abbrev vrow (v:Vars):Ms.Row:=v.map (fun p => (p.1,tyV p.2))
structure Rows4 (K:BK) (w:World) (v:Vars) (t:Tk) (ord sn rc cl:Value):Prop where
 blk:w.heap[K.F]? = some (K.obj ord sn rc cl)
 ordO:w.ownsRow K.B 9 1 ord v.length (strs v)
 snO:w.ownsRow K.B 3 1 sn t.sends.length (nats t.sends)
 rcO:w.ownsRow K.B 3 1 rc t.recvs.length (nats t.recvs)
 clO:w.ownsRow K.B 3 1 cl t.calls.length (nats t.calls)
 far:∀ k,(sn.ownBlock = some k → rc.ownBlock ≠ some k ∧ cl.ownBlock ≠ some k) ∧ (rc.ownBlock = some k → cl.ownBlock ≠ some k)
def Gl (B:Nat) (w:World):Prop:=(2 < B ∧ 1 < B) ∧ w.cell? ⟨2,0,none⟩ = some (.int .i64 1) ∧ w.cell? ⟨2,1,none⟩ = some (.string ⟨#[]⟩) ∧ w.cell? ⟨1,0,none⟩ = some (.int .i64 2) ∧ w.cell? ⟨1,1,none⟩ = some (.string ⟨#[]⟩)
def DG (K:BK) (w:World):Prop:=DfsIn K.B w K.l K.a ∧ Gl K.B w
theorem DG.same {K:BK} {w w':World} (h:DG K w) (hs:Same K.B w w'):DG K w':=by
 obtain ⟨h1,⟨h2,h3⟩,h4,h5,h6,h7⟩:=h
 exact ⟨h1.same hs,⟨h2,h3⟩,(hs _ _ h2).trans h4,(hs _ _ h2).trans h5,(hs _ _ h3).trans h6,(hs _ _ h3).trans h7⟩
structure BW (K:BK) (w:World) (v:Vars) (t:Tk):Prop where
 grd:DG K w
 base:K.B ≤ K.M ∧ K.B ≤ K.T ∧ K.B ≤ K.F ∧ K.M ≠ K.T
 mp:Ms.In w K.M K.R
 nums:∀ s,Ms.val K.R s = (numOf K.l s).map (fun i => .int .i64 (i:Int))
 rows:∃ ord sn rc cl,Rows4 K w v t ord sn rc cl
 vars:Ms.In w K.T (vrow v)
 once:(v.map (·.1)).Nodup
theorem BW.dfs {K:BK} {w:World} {v:Vars} {t:Tk} (h:BW K w v t):DfsIn K.B w K.l K.a:=h.grd.1
def Free (K:BK) (w:World) (k:Nat):Prop:=k ≠ K.F ∧ k ≠ K.T ∧ ∀ ord sn rc cl,w.heap[K.F]? = some (K.obj ord sn rc cl) → ord.ownBlock ≠ some k ∧ sn.ownBlock ≠ some k ∧ rc.ownBlock ≠ some k ∧ cl.ownBlock ≠ some k
structure Kpt (K:BK) (w w':World):Prop where
 os:w'.os = w.os
 tape:w'.tape = w.tape
 output:w'.output = w.output
 size:w.heap.size ≤ w'.heap.size
 block:∀ k,k < w.heap.size → Free K w k → w'.heap[k]? = w.heap[k]? ∧ Free K w' k
theorem Kpt.refl (K:BK) (w:World):Kpt K w w:=⟨rfl,rfl,rfl,Nat.le_refl _,fun _ _ h => ⟨rfl,h⟩⟩
theorem Kpt.trans {K:BK} {a b c:World} (h:Kpt K a b) (h2:Kpt K b c):Kpt K a c :=
 ⟨h2.os.trans h.os,h2.tape.trans h.tape,h2.output.trans h.output,Nat.le_trans h.size h2.size,fun k hk hf => by
  obtain ⟨h3,h4⟩:=h.block k hk hf
  obtain ⟨h5,h6⟩:=h2.block k (by have:=h.size; omega) h4
  exact ⟨h5.trans h3,h6⟩⟩
theorem Kpt.grown {K:BK} {w w':World} (hg:w.grownBy w' none) (hF:K.F < w.heap.size):Kpt K w w' :=
 ⟨hg.os,hg.tape,hg.output,hg.size,fun k hk hf => ⟨hg.block k hk (by simp),hf.1,hf.2.1,fun o s r c h => hf.2.2 o s r c ((hg.block _ hF (by simp)).symm.trans h)⟩⟩
theorem own_lt {w:World} {B e size n:Nat} {v:Value} {xs:List Value} (h:w.ownsRow B e size v n xs):∀ k,v.ownBlock = some k → B ≤ k ∧ k < w.heap.size ∧ ∃ cur,w.heap[k]? = some (.cells cur e (0,0)):=by
 rcases h.2 with ⟨rfl,_⟩ | ⟨g',cap,cur,rfl,hB,hh,_⟩
 ·intro k hk; simp [Value.ownBlock] at hk
 ·intro k e1
  simp only [Value.ownBlock,Option.some.injEq] at e1
  subst e1
  exact ⟨hB,lt_of_block hh,cur,hh⟩
theorem own_keep {w w':World} {B e size n:Nat} {v:Value} {xs:List Value} (h:w.ownsRow B e size v n xs) (hk:∀ k,v.ownBlock = some k → w'.heap[k]? = w.heap[k]?):w'.ownsRow B e size v n xs:=by
 refine ⟨h.1,?_⟩
 rcases h.2 with h2 | ⟨g',cap,cur,rfl,hB,hh,hr⟩
 ·exact .inl h2
 ·exact .inr ⟨g',cap,cur,rfl,hB,(hk g' rfl).trans hh,hr⟩
theorem own_form {w:World} {B e size n:Nat} {v:Value} {xs:List Value} (h:w.ownsRow B e size v n xs):∃ a c,v = .slice a n c:=by
 rcases h.2 with ⟨rfl,h0⟩ | ⟨g,cp,cur,rfl,_⟩
 ·exact ⟨_,_,by rw [h0]⟩
 ·exact ⟨_,_,rfl⟩
theorem Rows4.lt {K:BK} {w:World} {v:Vars} {t:Tk} {ord sn rc cl:Value} (h:Rows4 K w v t ord sn rc cl):K.F < w.heap.size:=lt_of_block h.blk
theorem Rows4.keep {K:BK} {w w':World} {v:Vars} {t:Tk} {ord sn rc cl:Value} (h:Rows4 K w v t ord sn rc cl) (hk:∀ (k:Nat) (cs:Array Value) (e:TypeId),w.heap[k]? = some (Obj.cells cs e (0,0)) → w'.heap[k]? = w.heap[k]?):Rows4 K w' v t ord sn rc cl :=
 ⟨(hk _ _ _ h.blk).trans h.blk,own_keep h.ordO (fun k hb => by obtain ⟨_,_,cur,hc⟩:=own_lt h.ordO k hb; exact hk _ _ _ hc),own_keep h.snO (fun k hb => by obtain ⟨_,_,cur,hc⟩:=own_lt h.snO k hb; exact hk _ _ _ hc),
  own_keep h.rcO (fun k hb => by obtain ⟨_,_,cur,hc⟩:=own_lt h.rcO k hb; exact hk _ _ _ hc),own_keep h.clO (fun k hb => by obtain ⟨_,_,cur,hc⟩:=own_lt h.clO k hb; exact hk _ _ _ hc),h.far⟩
theorem BW.lt {K:BK} {w:World} {v:Vars} {t:Tk} (h:BW K w v t):K.F < w.heap.size:=by
 obtain ⟨_,_,_,_,hr⟩:=h.rows
 exact hr.lt
theorem BW.grown {K:BK} {w w':World} {v:Vars} {t:Tk} (h:BW K w v t) (hg:w.grownBy w' none):BW K w' v t:=by
 obtain ⟨o,s,r,c,hr⟩:=h.rows
 have hF:=hr.lt
 exact ⟨h.grd.same (same_grown hg (by simp) (by have:=h.base; omega)),h.base,h.mp.grow hg,h.nums,⟨o,s,r,c,hr.keep (fun k cs e hb => hg.block k (lt_of_block hb) (by simp))⟩,h.vars.grow hg,h.once⟩
theorem val_look (s:ByteArray):∀ v:Vars,Ms.val (vrow v) s = (Sm.look v s).map tyV
 | [] => rfl
 | p :: v => by
  unfold vrow at *
  rw [List.map_cons,Ms.val_cons]
  by_cases h:s = p.1
  ·subst h; simp [Sm.look]
  ·have h':¬ p.1 = s:=fun e => h e.symm
   rw [if_neg h,val_look s v]
   simp [Sm.look,h']
theorem known_any (K:BK) (v:Vars) (t:Tk) (name:ByteArray) (w:World) (r:Except Int Value) (h:Hid (BW K w v t)) (hr:Hid (r = match Sm.known v name with | .ok y => .ok (tyV y) | .error e => .error e)) :
  Calls Tryz.prog 108 #[.pointer (some ⟨K.F,0,none⟩),.string name] w fun e w' => Fe K.num r w e w':=by
 obtain ⟨o,s,rr,cc,h4⟩:=h.out.rows
 have hF:=h4.lt
 obtain ⟨ty0,hty0⟩:∃ ty0:Sy.Ty,ty0 = ⟨0,⟨#[]⟩⟩:=⟨_,rfl⟩
 have hz:∀ w',(zeroValue 35).run Tryz.prog w' = .ok (tyV ⟨0,⟨#[]⟩⟩) w':=fun w' => by kernel_rfl
 obtain ⟨W,hW⟩:∃ W,W = w.alloc (.cells #[.int .i64 0,.string ⟨#[]⟩] 35):=⟨_,rfl⟩
 have hWg:w.grownBy W none:=by rw [hW]; exact grown_a _
 have hL:=(Ms.run_lookup Tryz.underlying101 Tryz.underlying9 (k:=name) (h.out.vars.grow hWg) (hz W)).2
 rw [val_look] at hL
 obtain ⟨c0,c1,c2,c3,_⟩:=bd_cells ((hWg.block _ hF (by simp)).trans h4.blk)
 have HF:=hF
 cases hn:Sm.look v name with
 | none =>
  have HR:Hid (r = .error 7):=by unfold Hid; rw [hr.out]; simp [Sm.known,hn]
  rw [hn] at hL
  simp only [Option.map_none,Option.getD_none,Option.isSome_none] at hL
  have k:∀ o:Nat,o < 3 → (W.alloc (.cells #[.int .i64 0,.string ⟨#[]⟩] 35)).cell? ⟨K.F,o,none⟩ = W.cell? ⟨K.F,o,none⟩:=fun o _ => World.cell?_of_block (Below.heap_alloc _ _ _ (by have:=hWg.size; dsimp; omega))
  have d0:=(k 0 (by decide)).trans c0
  have d1:=(k 1 (by decide)).trans c1
  have d2:=(k 2 (by decide)).trans c2
  subst hW
  clear hr hn hz h4 k hWg hty0
  go_enter Tryz.func108,Tryz.ntmps108
  go_wp2_with fail
  refine (fail_any K.l.length K.a K.c K.M K.num 7 _).mono ?_
  rintro e w1 ⟨rfl,hg⟩
  have HE:Hid (Fe K.num r w (.panicked [fltE 7 K.num]) w1):=by
   refine ⟨grown_trans (grown_a2 _ _) hg,?_⟩
   rw [HR.out]
  clear hg
  go_wp2
  exact ⟨rfl,HE.out⟩
 | some y =>
  have HR:Hid (r = .ok (tyV y)):=by unfold Hid; rw [hr.out]; simp [Sm.known,hn]
  rw [hn] at hL
  simp only [Option.map_some,Option.getD_some,Option.isSome_some] at hL
  subst hW
  clear hr hn hz h4 hWg hty0
  go_enter Tryz.func108,Tryz.ntmps108
  go_wp2
  refine bodyPost_ret (v:=tyV y) (by simp [results,Tryz.results108,go_sem]) rfl ?_
  refine ⟨?_,by rw [HR.out]⟩
  exact grown_a2 _ _
end Sm
end Go.Proofs.YtbioaoangfiijaaGreatDoor
