/- The small methods of a look and of a body. -/
import Derived.Test.YtpnljpdpobbiiaaGreatDoorM13
import Derived.WalkSpells
import Derived.WalkLawsBesides
import Derived.Deep.QuietTactic
import Derived.BigQuiet
import Derived.Laws.AppendOwnNone
import Derived.OwnWalk
set_option maxRecDepth 100000
set_option maxHeartbeats 1000000
namespace Go.Proofs.YtpnljpdpobbiiaaGreatDoor
open Go.RowKit
namespace Sm
abbrev lkV (n:Nat) (a:Option Addr) (c M:Nat) (i:Int):Value:=.agg #[.slice a n c,.map (some M),.int .i64 i]
def Fe (num:Int) (r:Except Int Value) (w:World) (e:Ending) (w':World):Prop :=
 w.grownBy w' none ∧ e = match r with | .ok v => .returned v | .error er => .panicked [fltE er num]
theorem grown_a {w:World} (o:Obj):w.grownBy (w.alloc o) none:=⟨rfl,rfl,rfl,by simp,fun k hk _ => Below.heap_alloc _ _ _ (by omega)⟩
theorem list_beq (a b:ByteArray):(a.toList == b.toList) = decide (a = b):=by
 rw [Bool.eq_iff_iff]
 simp only [beq_iff_eq,decide_eq_true_eq]
 exact ⟨fun h => by
  rw [Lib.toList_data,Lib.toList_data] at h
  cases a; cases b; simp at h; rw [h],fun h => by rw [h]⟩
theorem grown_a2 {w:World} (o o':Obj):w.grownBy ((w.alloc o).alloc o') none:=grown_trans (grown_a o) (grown_a o')
theorem same_any (a b:Sy.Ty) (w:World) (r:Bool) (hr:Hid (r = Sm.same a b)) :
  Calls Tryz.prog 115 #[tyV a,tyV b] w fun e w' => e = .returned (.bool r) ∧ w.grownBy w' none:=by
 obtain ⟨ak,ag⟩:=a
 obtain ⟨bk,bg⟩:=b
 by_cases h1:ak = bk
 ·by_cases h2:ak = 3
  ·have HR:Hid ((ag.toList == bg.toList) = r):=by unfold Hid; rw [hr.out,list_beq]; simp [Sm.same,← h1,h2]
   clear hr
   go_enter Tryz.func115,Tryz.ntmps115
   go_wp2
   go_ret
   exact ⟨ret_bool HR.out,grown_a2 _ _⟩
  ·have HR:Hid (true = r):=by unfold Hid; rw [hr.out]; simp [Sm.same,← h1,h2]
   clear hr
   go_enter Tryz.func115,Tryz.ntmps115
   go_wp2
   go_ret
   exact ⟨ret_bool HR.out,grown_a2 _ _⟩
 ·have HR:Hid (false = r):=by unfold Hid; rw [hr.out]; simp [Sm.same,h1]
  clear hr
  go_enter Tryz.func115,Tryz.ntmps115
  go_wp2
  go_ret
  exact ⟨ret_bool HR.out,grown_a2 _ _⟩
theorem fail_any (n:Nat) (a:Option Addr) (c M:Nat) (i er:Int) (w:World) :
  Calls Tryz.prog 55 #[lkV n a c M i,.int .i64 er] w fun e w' => e = .panicked [fltE er i] ∧ w.grownBy w' none:=by
 go_enter Tryz.func55,Tryz.ntmps55
 go_wp2_with fail
 refine (throw_any i er _).mono ?_
 rintro e w1 ⟨rfl,_,rfl⟩
 go_wp2
 exact ⟨rfl,rfl,grown_a _⟩
theorem plain_any (n:Nat) (a:Option Addr) (c M:Nat) (i:Int) (t:Sy.Ty) (w:World) (r:Except Int Value) (hr:Hid (r = match Sm.plain t with | .ok _ => .ok (.tuple #[]) | .error e => .error e)) :
  Calls Tryz.prog 52 #[lkV n a c M i,tyV t] w fun e w' => Fe i r w e w':=by
 obtain ⟨tk,tg⟩:=t
 by_cases h:tk = 3
 ·have HR:Hid (r = .error 9):=by unfold Hid; rw [hr.out]; simp [Sm.plain,h]
  clear hr
  go_enter Tryz.func52,Tryz.ntmps52
  go_wp2_with fail
  refine (fail_any n a c M i 9 _).mono ?_
  rintro e w1 ⟨rfl,hg⟩
  have HE:Hid (Fe i r w (.panicked [fltE 9 i]) w1):=by
   refine ⟨grown_trans (grown_a2 _ _) hg,?_⟩
   rw [HR.out]
  clear hg
  go_wp2
  exact ⟨rfl,HE.out⟩
 ·have HR:Hid (r = .ok (.tuple #[])):=by unfold Hid; rw [hr.out]; simp [Sm.plain,h]
  clear hr
  go_enter Tryz.func52,Tryz.ntmps52
  go_wp2
  go_end0
  exact ⟨grown_a2 _ _,by rw [HR.out]⟩
theorem numOf_lt {l:List Sy.Df} {name:ByteArray} {i:Nat} (h:numOf l name = some i):i < l.length:=by
 have:=List.mem_of_find?_eq_some h
 simpa using this
theorem want_any (B:Nat) (l:List Sy.Df) (a:Option Addr) (c M:Nat) (num kind:Int) (name:ByteArray) (R:Ms.Row) (w:World) (r:Except Int Value) (hD:Hid (DfsIn B w l a)) (hB:B ≤ w.heap.size) (hM:Hid (Ms.In w M R)) (hR:Hid (∀ s,Ms.val R s = (numOf l s).map (fun i => .int .i64 (i:Int))))
  (hr:Hid (r = match Sm.want l kind name with | .ok i => .ok (.int .i64 (i:Int)) | .error e => .error e)) :
  Calls Tryz.prog 74 #[lkV l.length a c M num,.int .i64 kind,.string name] w fun e w' => Fe num r w e w':=by
 have hz:∀ w',(zeroValue 3).run Tryz.prog w' = .ok (.int .i64 0) w':=fun w' => by kernel_rfl
 have hL:=(Ms.run_lookup Tryz.underlying48 Tryz.underlying9 (k:=name) (hM.out.grow (grown_a (.cells #[.slice a l.length c,.map (some M),.int .i64 num] 76))) (hz _)).2
 rw [hR.out name] at hL
 cases hn:numOf l name with
 | none =>
  have HR:Hid (r = .error 7):=by unfold Hid; rw [hr.out]; simp [Sm.want,hn]
  rw [hn] at hL
  clear hr hn hz
  go_enter Tryz.func74,Tryz.ntmps74
  go_wp2_with fail
  refine (fail_any l.length a c M num 7 _).mono ?_
  rintro e w1 ⟨rfl,hg⟩
  have HE:Hid (Fe num r w (.panicked [fltE 7 num]) w1):=by
   refine ⟨grown_trans (grown_a _) hg,?_⟩
   rw [HR.out]
  clear hg
  go_wp2
  exact ⟨rfl,HE.out⟩
 | some i =>
  have hi:=numOf_lt hn
  rw [hn] at hL
  obtain ⟨b,off,pa,pc,ba,bc,rfl,hb,k0,_⟩:=hD.out.2 i l[i] (List.getElem?_eq_getElem hi)
  have hml:l.length ≤ maxLen:=hD.out.1
  have k0':(w.alloc (.cells #[.slice (some ⟨b,off,none⟩) l.length c,.map (some M),.int .i64 num] 76)).cell? ⟨b,off + i * 9,none⟩ = some (.int .i64 l[i].kind):=by
   rw [← k0]
   exact World.cell?_of_block (Below.heap_alloc _ _ _ (by dsimp; omega))
  obtain ⟨dk,hdk⟩:∃ dk,dk = l[i].kind:=⟨_,rfl⟩
  rw [← hdk] at k0'
  have hda:(defAt l i).kind = dk:=by rw [hdk]; simp [defAt,List.getElem?_eq_getElem hi]
  obtain ⟨L,hLn⟩:∃ L,L = l.length:=⟨_,rfl⟩
  rw [← hLn] at hi hml hL k0' ⊢
  by_cases hk:dk = kind
  ·have HR:Hid (r = .ok (.int .i64 (i:Int))):=by unfold Hid; rw [hr.out]; simp [Sm.want,hn,hda,hk]
   clear hr hn hz hda hdk k0 hLn
   simp only [Option.map_some,Option.getD_some,Option.isSome_some] at hL
   go_enter Tryz.func74,Tryz.ntmps74
   go_wp2
   go_ret
   exact ⟨grown_a _,by rw [HR.out]; rfl⟩
  ·have HR:Hid (r = .error 7):=by unfold Hid; rw [hr.out]; simp [Sm.want,hn,hda,hk]
   clear hr hn hz hda hdk k0 hLn
   simp only [Option.map_some,Option.getD_some,Option.isSome_some] at hL
   go_enter Tryz.func74,Tryz.ntmps74
   go_wp2_with fail
   refine (fail_any L _ c M num 7 _).mono ?_
   rintro e w1 ⟨rfl,hg⟩
   have HE:Hid (Fe num r w (.panicked [fltE 7 num]) w1):=by
    refine ⟨grown_trans (grown_a _) hg,?_⟩
    rw [HR.out]
   clear hg
   go_wp2
   exact ⟨rfl,HE.out⟩
abbrev bdO (n:Nat) (a:Option Addr) (c M:Nat) (num:Int) (T:Nat) (ord sn rc cl:Value):Obj :=
 .cells #[.slice a n c,.map (some M),.int .i64 num,.map (some T),ord,sn,rc,cl] 89 (0,0)
theorem bd_cells {w:World} {F n:Nat} {a:Option Addr} {c M:Nat} {num:Int} {T:Nat} {ord sn rc cl:Value} (h:w.heap[F]? = some (bdO n a c M num T ord sn rc cl)) :
  w.cell? ⟨F,0,none⟩ = some (.slice a n c) ∧ w.cell? ⟨F,1,none⟩ = some (.map (some M)) ∧ w.cell? ⟨F,2,none⟩ = some (.int .i64 num) ∧ w.cell? ⟨F,3,none⟩ = some (.map (some T)) ∧ w.cell? ⟨F,4,none⟩ = some ord ∧ w.cell? ⟨F,5,none⟩ = some sn ∧ w.cell? ⟨F,6,none⟩ = some rc ∧ w.cell? ⟨F,7,none⟩ = some cl:=by
 simp [World.cell?,h]
theorem bd_frozen {w:World} {F n:Nat} {a:Option Addr} {c M:Nat} {num:Int} {T:Nat} {ord sn rc cl:Value} (h:w.heap[F]? = some (bdO n a c M num T ord sn rc cl)) :
  w.frozen? ⟨F,4,none⟩ = false ∧ w.frozen? ⟨F,5,none⟩ = false ∧ w.frozen? ⟨F,6,none⟩ = false ∧ w.frozen? ⟨F,7,none⟩ = false:=by
 simp [World.frozen?,h]
theorem fits_any (F n:Nat) (a:Option Addr) (c M:Nat) (num:Int) (T:Nat) (ord sn rc cl:Value) (b:Bool) (w:World) (r:Except Int Value) (h:Hid (w.heap[F]? = some (bdO n a c M num T ord sn rc cl))) (hr:Hid (r = match Sm.fits b with | .ok _ => .ok (.tuple #[]) | .error e => .error e)) :
  Calls Tryz.prog 102 #[.pointer (some ⟨F,0,none⟩),.bool b] w fun e w' => Fe num r w e w':=by
 obtain ⟨c0,c1,c2,_⟩:=bd_cells h.out
 cases b with
 | false =>
  have HR:Hid (r = .error 8):=by unfold Hid; rw [hr.out]; rfl
  clear hr
  go_enter Tryz.func102,Tryz.ntmps102
  go_wp2_with fail
  refine (fail_any n a c M num 8 _).mono ?_
  rintro e w1 ⟨rfl,hg⟩
  have HE:Hid (Fe num r w (.panicked [fltE 8 num]) w1):=by
   refine ⟨hg,?_⟩
   rw [HR.out]
  clear hg
  go_wp2
  exact ⟨rfl,HE.out⟩
 | true =>
  have HR:Hid (r = .ok (.tuple #[])):=by unfold Hid; rw [hr.out]; rfl
  clear hr
  go_enter Tryz.func102,Tryz.ntmps102
  go_wp2
  go_end0
  exact ⟨grown_refl _ _,by rw [HR.out]⟩
def DfV (B:Nat) (w:World) (d:Sy.Df) (v:Value):Prop:=∃ pa pc ba bc,v = dfV d pa pc ba bc ∧ DfIn B w d pa ba
theorem def_any (B:Nat) (l:List Sy.Df) (a:Option Addr) (c M i:Nat) (d:Sy.Df) (w:World) (hD:Hid (DfsIn B w l a)) (hB:B ≤ w.heap.size) (hd:Hid (l[i]? = some d)) :
  Calls Tryz.prog 51 #[lkV l.length a c M (i:Int)] w fun e w' => w.grownBy w' none ∧ ∃ v,e = .returned v ∧ DfV B w d v:=by
 have hi:i < l.length:=(List.getElem?_eq_some_iff.1 hd.out).1
 obtain ⟨b,off,pa,pc,ba,bc,rfl,hb,k0,k1,k2,k3,k4,k5,k6,k7,k8,hdf⟩:=hD.out.2 i d hd.out
 have HD:Hid (DfIn B w d pa ba):=hdf
 have hml:l.length ≤ maxLen:=hD.out.1
 obtain ⟨L,hLn⟩:∃ L,L = l.length:=⟨_,rfl⟩
 rw [← hLn] at hi hml ⊢
 obtain ⟨W,hW⟩:∃ W,W = (w.alloc (.cells #[.slice (some ⟨b,off,none⟩) L c,.map (some M),.int .i64 (i:Int)] 76)).alloc (.cells #[.int .i64 0,.string ⟨#[]⟩,.int .i64 0,.string ⟨#[]⟩,.int .i64 0,.string ⟨#[]⟩,.int .i64 0,.slice none 0 0,.slice none 0 0] 35):=⟨_,rfl⟩
 have hc:∀ o,W.cell? ⟨b,o,none⟩ = w.cell? ⟨b,o,none⟩:=fun o => by
  rw [hW]
  exact World.cell?_of_block ((Below.heap_alloc _ _ _ (by simp; omega)).trans (Below.heap_alloc _ _ _ (by dsimp; omega)))
 rw [← hc] at k0 k1 k2 k3 k4 k5 k6 k7 k8
 subst hW
 clear hc hdf hLn hD hd
 go_enter Tryz.func51,Tryz.ntmps51
 go_wp2
 refine bodyPost_ret (v:=dfV d pa pc ba bc) (by simp [results,Tryz.results51,go_sem]) rfl ?_
 exact ⟨grown_a2 _ _,_,rfl,pa,pc,ba,bc,rfl,HD.out⟩
end Sm
namespace Sm
structure BK where
 l:List Sy.Df
 a:Option Addr
 c:Nat
 M:Nat
 num:Int
 T:Nat
 F:Nat
 B:Nat
 R:Ms.Row
abbrev BK.obj (K:BK) (ord sn rc cl:Value):Obj:=bdO K.l.length K.a K.c K.M K.num K.T ord sn rc cl
abbrev strs (v:Vars):List Value:=v.map (fun p => .string p.1)
abbrev nats (l:List Nat):List Value:=l.map (fun (n:Nat) => Value.int .i64 (n:Int))
abbrev vrow (v:Vars):Ms.Row:=v.map (fun p => (p.1,tyV p.2))
structure Rows4 (K:BK) (w:World) (v:Vars) (t:Tk) (ord sn rc cl:Value):Prop where
 blk:w.heap[K.F]? = some (K.obj ord sn rc cl)
 ordO:w.ownsRow K.B 9 1 ord v.length (strs v)
 snO:w.ownsRow K.B 3 1 sn t.sends.length (nats t.sends)
 rcO:w.ownsRow K.B 3 1 rc t.recvs.length (nats t.recvs)
 clO:w.ownsRow K.B 3 1 cl t.calls.length (nats t.calls)
 far:∀ k,(sn.ownBlock = some k → rc.ownBlock ≠ some k ∧ cl.ownBlock ≠ some k) ∧ (rc.ownBlock = some k → cl.ownBlock ≠ some k)
def Gl (B:Nat) (w:World):Prop:=(2 < B ∧ 1 < B) ∧ w.cell? ⟨2,0,none⟩ = some (.int .i64 1) ∧ w.cell? ⟨2,1,none⟩ = some (.string ⟨#[]⟩) ∧ w.cell? ⟨1,0,none⟩ = some (.int .i64 2) ∧ w.cell? ⟨1,1,none⟩ = some (.string ⟨#[]⟩)
def DG (K:BK) (w:World):Prop:=DfsIn K.B w K.l K.a ∧ Gl K.B w
theorem DG.same {K:BK} {w w':World} (h:DG K w) (hs:Same K.B w w'):DG K w':=by
 obtain ⟨h1,⟨h2,h3⟩,h4,h5,h6,h7⟩:=h
 exact ⟨h1.same hs,⟨h2,h3⟩,(hs _ _ h2).trans h4,(hs _ _ h2).trans h5,(hs _ _ h3).trans h6,(hs _ _ h3).trans h7⟩
structure BW (K:BK) (w:World) (v:Vars) (t:Tk):Prop where
 grd:DG K w
 base:K.B ≤ K.M ∧ K.B ≤ K.T ∧ K.B ≤ K.F ∧ K.M ≠ K.T
 mp:Ms.In w K.M K.R
 nums:∀ s,Ms.val K.R s = (numOf K.l s).map (fun i => .int .i64 (i:Int))
 rows:∃ ord sn rc cl,Rows4 K w v t ord sn rc cl
 vars:Ms.In w K.T (vrow v)
 once:(v.map (·.1)).Nodup
theorem BW.dfs {K:BK} {w:World} {v:Vars} {t:Tk} (h:BW K w v t):DfsIn K.B w K.l K.a:=h.grd.1
def Free (K:BK) (w:World) (k:Nat):Prop:=k ≠ K.F ∧ k ≠ K.T ∧ ∀ ord sn rc cl,w.heap[K.F]? = some (K.obj ord sn rc cl) → ord.ownBlock ≠ some k ∧ sn.ownBlock ≠ some k ∧ rc.ownBlock ≠ some k ∧ cl.ownBlock ≠ some k
structure Kpt (K:BK) (w w':World):Prop where
 os:w'.os = w.os
 tape:w'.tape = w.tape
 output:w'.output = w.output
 size:w.heap.size ≤ w'.heap.size
 block:∀ k,k < w.heap.size → Free K w k → w'.heap[k]? = w.heap[k]? ∧ Free K w' k
theorem Kpt.refl (K:BK) (w:World):Kpt K w w:=⟨rfl,rfl,rfl,Nat.le_refl _,fun _ _ h => ⟨rfl,h⟩⟩
theorem Kpt.trans {K:BK} {a b c:World} (h:Kpt K a b) (h2:Kpt K b c):Kpt K a c :=
 ⟨h2.os.trans h.os,h2.tape.trans h.tape,h2.output.trans h.output,Nat.le_trans h.size h2.size,fun k hk hf => by
  obtain ⟨h3,h4⟩:=h.block k hk hf
  obtain ⟨h5,h6⟩:=h2.block k (by have:=h.size; omega) h4
  exact ⟨h5.trans h3,h6⟩⟩
theorem Kpt.grown {K:BK} {w w':World} (hg:w.grownBy w' none) (hF:K.F < w.heap.size):Kpt K w w' :=
 ⟨hg.os,hg.tape,hg.output,hg.size,fun k hk hf => ⟨hg.block k hk (by simp),hf.1,hf.2.1,fun o s r c h => hf.2.2 o s r c ((hg.block _ hF (by simp)).symm.trans h)⟩⟩
theorem own_lt {w:World} {B e size n:Nat} {v:Value} {xs:List Value} (h:w.ownsRow B e size v n xs):∀ k,v.ownBlock = some k → B ≤ k ∧ k < w.heap.size ∧ ∃ cur,w.heap[k]? = some (.cells cur e (0,0)):=by
 rcases h.2 with ⟨rfl,_⟩ | ⟨g',cap,cur,rfl,hB,hh,_⟩
 ·intro k hk; simp [Value.ownBlock] at hk
 ·intro k e1
  simp only [Value.ownBlock,Option.some.injEq] at e1
  subst e1
  exact ⟨hB,lt_of_block hh,cur,hh⟩
theorem own_keep {w w':World} {B e size n:Nat} {v:Value} {xs:List Value} (h:w.ownsRow B e size v n xs) (hk:∀ k,v.ownBlock = some k → w'.heap[k]? = w.heap[k]?):w'.ownsRow B e size v n xs:=by
 refine ⟨h.1,?_⟩
 rcases h.2 with h2 | ⟨g',cap,cur,rfl,hB,hh,hr⟩
 ·exact .inl h2
 ·exact .inr ⟨g',cap,cur,rfl,hB,(hk g' rfl).trans hh,hr⟩
theorem own_form {w:World} {B e size n:Nat} {v:Value} {xs:List Value} (h:w.ownsRow B e size v n xs):∃ a c,v = .slice a n c:=by
 rcases h.2 with ⟨rfl,h0⟩ | ⟨g,cp,cur,rfl,_⟩
 ·exact ⟨_,_,by rw [h0]⟩
 ·exact ⟨_,_,rfl⟩
theorem Rows4.lt {K:BK} {w:World} {v:Vars} {t:Tk} {ord sn rc cl:Value} (h:Rows4 K w v t ord sn rc cl):K.F < w.heap.size:=lt_of_block h.blk
theorem Rows4.keep {K:BK} {w w':World} {v:Vars} {t:Tk} {ord sn rc cl:Value} (h:Rows4 K w v t ord sn rc cl) (hk:∀ (k:Nat) (cs:Array Value) (e:TypeId),w.heap[k]? = some (Obj.cells cs e (0,0)) → w'.heap[k]? = w.heap[k]?):Rows4 K w' v t ord sn rc cl :=
 ⟨(hk _ _ _ h.blk).trans h.blk,own_keep h.ordO (fun k hb => by obtain ⟨_,_,cur,hc⟩:=own_lt h.ordO k hb; exact hk _ _ _ hc),own_keep h.snO (fun k hb => by obtain ⟨_,_,cur,hc⟩:=own_lt h.snO k hb; exact hk _ _ _ hc),
  own_keep h.rcO (fun k hb => by obtain ⟨_,_,cur,hc⟩:=own_lt h.rcO k hb; exact hk _ _ _ hc),own_keep h.clO (fun k hb => by obtain ⟨_,_,cur,hc⟩:=own_lt h.clO k hb; exact hk _ _ _ hc),h.far⟩
theorem BW.lt {K:BK} {w:World} {v:Vars} {t:Tk} (h:BW K w v t):K.F < w.heap.size:=by
 obtain ⟨_,_,_,_,hr⟩:=h.rows
 exact hr.lt
theorem BW.grown {K:BK} {w w':World} {v:Vars} {t:Tk} (h:BW K w v t) (hg:w.grownBy w' none):BW K w' v t:=by
 obtain ⟨o,s,r,c,hr⟩:=h.rows
 have hF:=hr.lt
 exact ⟨h.grd.same (same_grown hg (by simp) (by have:=h.base; omega)),h.base,h.mp.grow hg,h.nums,⟨o,s,r,c,hr.keep (fun k cs e hb => hg.block k (lt_of_block hb) (by simp))⟩,h.vars.grow hg,h.once⟩
theorem val_look (s:ByteArray):∀ v:Vars,Ms.val (vrow v) s = (Sm.look v s).map tyV
 | [] => rfl
 | p :: v => by
  unfold vrow at *
  rw [List.map_cons,Ms.val_cons]
  by_cases h:s = p.1
  ·subst h; simp [Sm.look]
  ·have h':¬ p.1 = s:=fun e => h e.symm
   rw [if_neg h,val_look s v]
   simp [Sm.look,h']
theorem known_any (K:BK) (v:Vars) (t:Tk) (name:ByteArray) (w:World) (r:Except Int Value) (h:Hid (BW K w v t)) (hr:Hid (r = match Sm.known v name with | .ok y => .ok (tyV y) | .error e => .error e)) :
  Calls Tryz.prog 101 #[.pointer (some ⟨K.F,0,none⟩),.string name] w fun e w' => Fe K.num r w e w':=by
 obtain ⟨o,s,rr,cc,h4⟩:=h.out.rows
 have hF:=h4.lt
 obtain ⟨ty0,hty0⟩:∃ ty0:Sy.Ty,ty0 = ⟨0,⟨#[]⟩⟩:=⟨_,rfl⟩
 have hz:∀ w',(zeroValue 31).run Tryz.prog w' = .ok (tyV ⟨0,⟨#[]⟩⟩) w':=fun w' => by kernel_rfl
 obtain ⟨W,hW⟩:∃ W,W = w.alloc (.cells #[.int .i64 0,.string ⟨#[]⟩] 31):=⟨_,rfl⟩
 have hWg:w.grownBy W none:=by rw [hW]; exact grown_a _
 have hL:=(Ms.run_lookup Tryz.underlying85 Tryz.underlying9 (k:=name) (h.out.vars.grow hWg) (hz W)).2
 rw [val_look] at hL
 obtain ⟨c0,c1,c2,c3,_⟩:=bd_cells ((hWg.block _ hF (by simp)).trans h4.blk)
 have HF:=hF
 cases hn:Sm.look v name with
 | none =>
  have HR:Hid (r = .error 7):=by unfold Hid; rw [hr.out]; simp [Sm.known,hn]
  rw [hn] at hL
  simp only [Option.map_none,Option.getD_none,Option.isSome_none] at hL
  have k:∀ o:Nat,o < 3 → (W.alloc (.cells #[.int .i64 0,.string ⟨#[]⟩] 31)).cell? ⟨K.F,o,none⟩ = W.cell? ⟨K.F,o,none⟩:=fun o _ => World.cell?_of_block (Below.heap_alloc _ _ _ (by have:=hWg.size; dsimp; omega))
  have d0:=(k 0 (by decide)).trans c0
  have d1:=(k 1 (by decide)).trans c1
  have d2:=(k 2 (by decide)).trans c2
  subst hW
  clear hr hn hz h4 k hWg hty0
  go_enter Tryz.func101,Tryz.ntmps101
  go_wp2_with fail
  refine (fail_any K.l.length K.a K.c K.M K.num 7 _).mono ?_
  rintro e w1 ⟨rfl,hg⟩
  have HE:Hid (Fe K.num r w (.panicked [fltE 7 K.num]) w1):=by
   refine ⟨grown_trans (grown_a2 _ _) hg,?_⟩
   rw [HR.out]
  clear hg
  go_wp2
  exact ⟨rfl,HE.out⟩
 | some y =>
  have HR:Hid (r = .ok (tyV y)):=by unfold Hid; rw [hr.out]; simp [Sm.known,hn]
  rw [hn] at hL
  simp only [Option.map_some,Option.getD_some,Option.isSome_some] at hL
  subst hW
  clear hr hn hz h4 hWg hty0
  go_enter Tryz.func101,Tryz.ntmps101
  go_wp2
  refine bodyPost_ret (v:=tyV y) (by simp [results,Tryz.results101,go_sem]) rfl ?_
  refine ⟨?_,by rw [HR.out]⟩
  exact grown_a2 _ _
end Sm
namespace Sm
theorem run_append_where {P:Program} (w:World) (base:Nat) (t ty e:TypeId) (i:TypeInfo) (z:Value) (size bytes:Nat) (ht:P.underlying t = some (.slice e)) (hi:P.info? e = some i) (hz:i.zero = some z)
  (hsize:i.size = size) (hby:i.bytes = bytes) (hzs:z.cells.size = size) (hsz:0 < size)
  (v:Value) (n:Nat) (xs:List Value) (hown:w.ownsRow base e size v n xs)
  (a:Addr) (m c:Nat) (news:List Value) (hl:news.length = m * size) (hnews:∀ j u,news[j]? = some u → w.cell? (a.add j) = some u) (h1:∀ u ∈ news,u.oneCell' = true)
  (h0:0 < m) (h63:n + m ≤ maxLen) (hbytes:(n + m) * bytes ≤ 140737488355328) (hbase:base ≤ w.heap.size) :
  ∃ v' w',(Builtin.append_ #[t,t] ty #[v,.slice (some a) m c]).run P w = .ok v' w' ∧ w'.ownsRow base e size v' (n + m) (xs ++ news) ∧ w.grownBy w' v.ownBlock ∧
   ∃ g cap,v' = .slice (some ⟨g,0,none⟩) (n + m) cap ∧ (v.ownBlock = some g ∨ g = w.heap.size):=by
 obtain ⟨v',w',hr,h2,h3,_⟩:=run_append_own (P:=P) w base t ty e i z size bytes ht hi hz hsize hby hzs hsz v n xs hown a m c news hl hnews h1 h63 hbytes hbase
 refine ⟨v',w',hr,h2,h3,?_⟩
 have hsmall:n + m ≤ 9223372036854775807:=by simp only [maxLen] at h63; omega
 subst hsize
 subst hby
 rcases hown.2 with ⟨rfl,rfl⟩ | ⟨g,cap,cur,rfl,hbg,hg,hnc,hcm,hcs,htake⟩
 ·have hq:=run_append_nil (P:=P) w t ty e i z ht hi hz a m c news hl hnews h0 (by omega) (by have hb:=hbytes; simp only [Nat.zero_add] at hb; omega)
  rw [hr] at hq
  injection hq with e1 e2
  exact ⟨w.heap.size,_,by rw [e1,Nat.zero_add],.inr rfl⟩
 ·by_cases hroom:n + m ≤ cap
  ·have hfit:n * i.size + news.length ≤ cur.size:=by rw [hl,hcs,← Nat.add_mul]; exact Nat.mul_le_mul_right _ hroom
   have hq:=run_append_room (P:=P) w t ty e i ht hi g n cap cur hg a m c news hl hnews h1 hroom hfit
   rw [hr] at hq
   injection hq with e1 e2
   exact ⟨g,cap,e1,.inl rfl⟩
  ·have hq:=run_append_grow (P:=P) w t ty e i z ht hi hz ⟨g,0,none⟩ n cap xs hown.1 (hown.cells (g:=g) rfl) a m c news hl hnews (by omega) (by omega) (growslice_fits (by omega) hbytes)
   rw [hr] at hq
   injection hq with e1 e2
   exact ⟨w.heap.size,_,e1,.inr rfl⟩
theorem wpList_append_where {P:Program} {w:World} {ops:Array Oper} {rest:List Oper} {o:Oper} {a:Act} {Q:Exit → Act → World → Prop} (hgd:o.guard = none) (s x:Operand) (t:TypeId)
  (ho:o.op = .call { callee:=.builtin .append,args:=#[s,x],argTypes:=#[t,t] })
  (base:Nat) (e:TypeId) (i:TypeInfo) (z:Value) (size bytes:Nat) (ht:P.underlying t = some (.slice e)) (hi:P.info? e = some i) (hz:i.zero = some z)
  (hsize:i.size = size) (hby:i.bytes = bytes) (hzs:z.cells.size = size) (hsz:0 < size)
  (v:Value) (n:Nat) (xs:List Value) (hs:a.eval s = v) (hown:w.ownsRow base e size v n xs)
  (ad:Addr) (m c:Nat) (news:List Value) (hx:a.eval x = .slice (some ad) m c) (hl:news.length = m * size) (hnews:∀ j u,news[j]? = some u → w.cell? (ad.add j) = some u) (h1:∀ u ∈ news,u.oneCell' = true)
  (h0:0 < m) (h63:n + m ≤ maxLen) (hbytes:(n + m) * bytes ≤ 140737488355328) (hbase:base ≤ w.heap.size)
  (h:∀ g cap w',w'.ownsRow base e size (.slice (some ⟨g,0,none⟩) (n + m) cap) (n + m) (xs ++ news) → w.grownBy w' v.ownBlock → (v.ownBlock = some g ∨ g = w.heap.size) → wpList P ops Q rest (a.put o.dst (.slice (some ⟨g,0,none⟩) (n + m) cap)) w'):wpList P ops Q (o :: rest) a w:=by
 refine wpList_plain hgd fun K hK => ?_
 obtain ⟨v',w',hr,h2,h3,g,cap,rfl,h4⟩:=run_append_where (P:=P) w base t o.type e i z size bytes ht hi hz hsize hby hzs hsz v n xs hown ad m c news hl hnews h1 h0 h63 hbytes hbase
 unfold Oper.wp
 simp [execOp,ho,resolve,invoke,builtin,hs,hx,hr,Result.andThen]
 exact hK _ _ (h g cap w' h2 h3 h4)
theorem Tryz.info9:(Tryz.prog.info? 9).map (fun i => (i.zero,i.size,i.bytes)) = some (some (.string ⟨#[]⟩),1,16):=by kernel_rfl
theorem info_parts {P:Program} {e:TypeId} {z:Value} {s b:Nat} (h:(P.info? e).map (fun i => (i.zero,i.size,i.bytes)) = some (some z,s,b)):∃ i,P.info? e = some i ∧ i.zero = some z ∧ i.size = s ∧ i.bytes = b:=by
 cases hi:P.info? e with
 | none => rw [hi] at h; cases h
 | some i =>
  rw [hi] at h
  simp only [Option.map_some,Option.some.injEq,Prod.mk.injEq] at h
  exact ⟨i,rfl,h.1,h.2.1,h.2.2⟩
theorem one_news (W:World) (u:Value) (t:TypeId):∀ j u',[u][j]? = some u' → (W.alloc (.cells #[u] t)).cell? ((⟨W.heap.size,0,none⟩:Addr).add j) = some u'
 | 0,u',h => by simp at h; subst h; simp [Addr.add]
 | j + 1,u',h => by simp at h
theorem one_str (x:ByteArray):∀ u ∈ [Value.string x],u.oneCell' = true:=by intro u hu; simp at hu; subst hu; rfl
theorem obj_inj {K:BK} {o s r c o' s' r' c':Value} (h:K.obj o s r c = K.obj o' s' r' c'):o = o' ∧ s = s' ∧ r = r' ∧ c = c':=by
 simp only [BK.obj,bdO,Obj.cells.injEq,Array.mk.injEq,List.cons.injEq] at h
 obtain ⟨⟨-,-,-,-,h1,h2,h3,h4,-⟩,-⟩:=h
 exact ⟨h1,h2,h3,h4⟩
theorem obj_set4 {K:BK} {w:World} {o s r c:Value} (h:w.heap[K.F]? = some (K.obj o s r c)) (v:Value):(w.setCell ⟨K.F,4,none⟩ v).heap[K.F]? = some (K.obj v s r c):=by
 simp only [World.setCell,Array.getElem?_modify,if_true,h,Option.map_some]
 rfl
theorem In.block {w:World} {M:Nat} {l:Ms.Row} (h:Ms.In w M l):∃ es cl,w.heap[M]? = some (.map es cl):=by
 obtain ⟨es,cl,h1,_⟩:=h
 exact ⟨es,cl,h1⟩
theorem In.far {w:World} {M k:Nat} {l:Ms.Row} {cs:Array Value} {t:TypeId} {fr:Nat × Nat} (h:Ms.In w M l) (hk:w.heap[k]? = some (.cells cs t fr)):k ≠ M:=fun e => by
 obtain ⟨es,cl,h1⟩:=In.block h
 rw [e,h1] at hk
 cases hk
theorem let_end {K:BK} {v:Vars} {t:Tk} {name:ByteArray} {ty:Sy.Ty} {w w2 w4:World} {ob o2:Obj} {ord sn rc cl:Value} {g cap:Nat} (h:BW K w v t) (h4:Rows4 K w v t ord sn rc cl) (hl:Sm.look v name = none)
  (hg2:(w.alloc ob).drew.grownBy w2 (some K.T)) (hT:Ms.In w2 K.T (vrow v ++ [(name,tyV ty)])) (hg4:(w2.alloc o2).grownBy w4 ord.ownBlock)
  (hown:w4.ownsRow K.B 9 1 (.slice (some ⟨g,0,none⟩) (v.length + 1) cap) (v.length + 1) (strs v ++ [.string name])) (hw:ord.ownBlock = some g ∨ g = (w2.alloc o2).heap.size) :
  BW K (w4.setCell ⟨K.F,4,none⟩ (.slice (some ⟨g,0,none⟩) (v.length + 1) cap)) (v ++ [(name,ty)]) t ∧ Kpt K w (w4.setCell ⟨K.F,4,none⟩ (.slice (some ⟨g,0,none⟩) (v.length + 1) cap)):=by
 obtain ⟨nv,hnv⟩:∃ nv,nv = Value.slice (some ⟨g,0,none⟩) (v.length + 1) cap:=⟨_,rfl⟩
 have hno:nv.ownBlock = some g:=by rw [hnv]; rfl
 rw [← hnv] at hown ⊢
 have hz2:w.heap.size + 1 ≤ w2.heap.size:=by simpa [World.drew] using hg2.size
 have hz4:w2.heap.size + 1 ≤ w4.heap.size:=by simpa using hg4.size
 have hFT:=In.far h.vars h4.blk
 have hoF:ord.ownBlock ≠ some K.F:=fun e => by
  obtain ⟨_,_,cur,hc⟩:=own_lt h4.ordO _ e
  rw [h4.blk] at hc
  cases hc
 have blk:∀ k,k < w.heap.size → k ≠ K.T → ord.ownBlock ≠ some k → w4.heap[k]? = w.heap[k]?:=fun k hk h1 h2 =>
  ((hg4.block k (by simp; omega) (fun e => h2 e.symm)).trans (Below.heap_alloc _ _ _ (by omega))).trans ((hg2.block k (by show k < (w.alloc ob).heap.size; simp; omega) (fun e => h1 (by simpa using e))).trans (Below.heap_alloc _ _ _ hk))
 have hF4:w4.heap[K.F]? = some (K.obj ord sn rc cl):=(blk _ h4.lt hFT hoF).trans h4.blk
 have hF5:=obj_set4 hF4 nv
 have set:∀ k,k ≠ K.F → (w4.setCell ⟨K.F,4,none⟩ nv).heap[k]? = w4.heap[k]?:=fun k hk => Below.heap_setCell w4 ⟨K.F,4,none⟩ nv k hk
 have all:∀ k,k < w.heap.size → k ≠ K.F → k ≠ K.T → ord.ownBlock ≠ some k → (w4.setCell ⟨K.F,4,none⟩ nv).heap[k]? = w.heap[k]?:=fun k hk h1 h2 h3 => (set k h1).trans (blk k hk h2 h3)
 have ints:∀ {x:Value} {n:Nat} {xs:List Value},w.ownsRow K.B 3 1 x n xs → (w4.setCell ⟨K.F,4,none⟩ nv).ownsRow K.B 3 1 x n xs:=fun {x n xs} ho => own_keep ho fun k hk => by
  obtain ⟨_,hlt,cur,hc⟩:=own_lt ho k hk
  refine all k hlt (fun e => ?_) (In.far h.vars hc) (fun e => ?_)
  ·rw [e,h4.blk] at hc
   cases hc
  ·obtain ⟨_,_,cur',hc'⟩:=own_lt h4.ordO k e
   rw [hc'] at hc
   cases hc
 have mapFar:∀ {M:Nat} {R:Ms.Row},Ms.In w M R → M ≠ K.F ∧ ord.ownBlock ≠ some M:=fun {M R} hm => ⟨fun e => (In.far hm h4.blk) e.symm,fun e => by
  obtain ⟨_,_,cur',hc'⟩:=own_lt h4.ordO _ e
  exact (In.far hm hc') rfl⟩
 refine ⟨⟨?_,h.base,?_,h.nums,⟨nv,sn,rc,cl,hF5,?_,ints h4.snO,ints h4.rcO,ints h4.clO,h4.far⟩,?_,?_⟩,⟨hg4.os.trans hg2.os,hg4.tape.trans hg2.tape,hg4.output.trans hg2.output,?_,fun k hk hf => ?_⟩⟩
 ·refine h.grd.same fun b o hb => World.cell?_of_block (a:=⟨b,o,none⟩) ?_
  have hbase:=h.base
  have:=h4.lt
  exact all b (by omega) (by omega) (by omega) (fun e => by have:=(own_lt h4.ordO b e).1; omega)
 ·exact h.mp.keep (all _ h.mp.lt (mapFar h.mp).1 h.base.2.2.2 (mapFar h.mp).2)
 ·have e1:(v ++ [(name,ty)]).length = v.length + 1:=by simp
  have e2:strs (v ++ [(name,ty)]) = strs v ++ [.string name]:=by simp
  rw [e1,e2]
  exact own_keep hown fun k hk => set k (fun e => by
   obtain ⟨_,_,cur',hc'⟩:=own_lt hown k hk
   rw [e,hF4] at hc'
   cases hc')
 ·have e1:vrow (v ++ [(name,ty)]) = vrow v ++ [(name,tyV ty)]:=by simp
  rw [e1]
  refine hT.keep ((set _ (fun e => hFT e.symm)).trans ((hg4.block _ (by have:=hT.lt; simp; omega) (fun e => (mapFar h.vars).2 e.symm)).trans (Below.heap_alloc _ _ _ hT.lt)))
 ·rw [List.map_append,List.nodup_append]
  refine ⟨h.once,by simp,fun a ha b hb => ?_⟩
  simp at hb
  subst hb
  intro e
  subst e
  obtain ⟨p,hp,hpa⟩:=List.mem_map.1 ha
  have:(v.find? (fun p => decide (p.1 = a))) = none:=by
   unfold Sm.look at hl
   cases hf:v.find? (fun p => decide (p.1 = a)) with
   | none => rfl
   | some x => rw [hf] at hl; cases hl
  rw [List.find?_eq_none] at this
  exact this p hp (by simp [hpa])
 ·simp [World.setCell]; omega
 ·obtain ⟨f1,f2,f3⟩:=hf
  obtain ⟨f4,f5,f6,f7⟩:=f3 _ _ _ _ h4.blk
  refine ⟨all k hk f1 f2 f4,f1,f2,fun o s r c ho => ?_⟩
  rw [hF5] at ho
  obtain ⟨rfl,rfl,rfl,rfl⟩:=obj_inj (Option.some.inj ho)
  refine ⟨?_,f5,f6,f7⟩
  rw [hno]
  intro e
  cases e
  rcases hw with hw | hw
  ·exact f4 hw
  ·simp at hw; omega
theorem let_any (K:BK) (v:Vars) (t:Tk) (name:ByteArray) (ty:Sy.Ty) (w:World) (h:Hid (BW K w v t)) (hl:Hid (Sm.look v name = none)) (hn:v.length ≤ 100000) :
  Calls Tryz.prog 57 #[.pointer (some ⟨K.F,3,none⟩),.string name,tyV ty] w fun e w' => e = .returned (.tuple #[]) ∧ BW K w' (v ++ [(name,ty)]) t ∧ Kpt K w w':=by
 obtain ⟨ord,sn,rc,cl,h4⟩:=h.out.rows
 have hF:=h4.lt
 have hBw:K.B ≤ w.heap.size:=by have:=h.out.base; omega
 obtain ⟨tk,tg⟩:=ty
 obtain ⟨w2,hup,hT,hg2⟩:=Ms.run_add Tryz.underlying85 Tryz.underlying9 (w:=(w.alloc (.cells #[.int .i64 tk,.string tg] 31)).drew) (k:=name) (v:=tyV ⟨tk,tg⟩) (h.out.vars.grow (w':=(w.alloc (.cells #[.int .i64 tk,.string tg] 31)).drew) (by have:=grown_a (w:=w) (.cells #[.int .i64 tk,.string tg] 31); exact ⟨this.os,this.tape,this.output,this.size,this.block⟩)) (by rw [val_look,hl.out]; rfl)
 obtain ⟨i0,hi,hz0,hz1,hz2⟩:=info_parts Tryz.info9
 have hz2':w.heap.size + 1 ≤ w2.heap.size:=by simpa [World.drew] using hg2.size
 have hFT:K.F ≠ K.T:=In.far h.out.vars h4.blk
 have hF0:(w.alloc (.cells #[.int .i64 tk,.string tg] 31)).heap[K.F]? = some (K.obj ord sn rc cl):=(Below.heap_alloc _ _ _ hF).trans h4.blk
 have hF2:w2.heap[K.F]? = some (K.obj ord sn rc cl):=(hg2.block _ (by show K.F < (w.alloc _).heap.size; simp; omega) (by simpa using hFT)).trans hF0
 obtain ⟨_,_,_,c3,_⟩:=bd_cells hF0
 obtain ⟨_,_,_,_,d4,_⟩:=bd_cells hF2
 have ho2:Hid (w2.ownsRow K.B 9 1 ord v.length (strs v)):=own_keep h4.ordO fun k hk => by
  obtain ⟨_,hlt,cur,hc⟩:=own_lt h4.ordO k hk
  exact (hg2.block k (by show k < (w.alloc _).heap.size; simp; omega) (by simpa using In.far h.out.vars hc)).trans (Below.heap_alloc _ _ _ hlt)
 have hoF:Hid (ord.ownBlock ≠ some K.F):=fun e => by
  obtain ⟨_,_,cur,hc⟩:=own_lt h4.ordO _ e
  rw [h4.blk] at hc
  cases hc
 have H4:Hid (Rows4 K w v t ord sn rc cl):=h4
 have HT:Hid (Ms.In w2 K.T (vrow v ++ [(name,tyV ⟨tk,tg⟩)])):=hT
 have HG2:Hid ((w.alloc (.cells #[.int .i64 tk,.string tg] 31)).drew.grownBy w2 (some K.T)):=hg2
 have HF2:Hid (w2.heap[K.F]? = some (K.obj ord sn rc cl)):=hF2
 obtain ⟨oa,oc,hord⟩:=own_form h4.ordO
 subst hord
 clear hT hg2 hFT hF0 hF2 h4
 go_enter Tryz.func57,Tryz.ntmps57
 go_wp2
 go_region
 all_goals
  go_wp2_with (at_builtin; refine wpList_append_where rfl _ _ 38 rfl K.B 9 i0 _ 1 16 Tryz.underlying38 hi hz0 hz1 hz2 rfl (by decide) _ v.length (strs v) rfl (ho2.out.alloc _) ⟨w2.heap.size,0,none⟩ 1 1 [.string name] rfl rfl (one_news _ _ _) (one_str _) (by decide) (by unfold maxLen; omega) (by omega) (by simp; omega) ?_; intro g cap w4 hq4 hg4 hw4; have HE:Hid _:=let_end h.out H4.out hl.out HG2.out HT.out hg4 hq4 hw4; have hb4:w4.heap[K.F]? = some (K.obj _ sn rc cl):=((hg4.block K.F (by simp; omega) (fun e => hoF.out e.symm)).trans (Below.heap_alloc _ _ _ (by omega))).trans HF2.out; have b4:=(bd_cells hb4).2.2.2.2.1; have y4:=(bd_frozen hb4).1; clear hq4 hg4 hb4 hw4)
  go_wp2
  go_end0
  exact ⟨rfl,HE.out⟩
end Sm
end Go.Proofs.YtpnljpdpobbiiaaGreatDoor
