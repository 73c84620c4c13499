/-
 DERIVED: THE SHELF's CONTRACTS AT THIS DUMP,IN PLAIN WORDS (tools/lay-plain.mjs out of 'TryzShelf.lean',which tools/lay-shelf.mjs wrote): THE SAME DECLARATIONS UNDER THE SAME NAMES: 'import','namespace','open','def','theorem' AND NOTHING ELSE: no command of the shelf's: FOR A HAND-IN. Each laying: the table of numbers ('.._ren') and one theorem,a field a fact of the dump's own or the kernel's comparison; each contract: ONE APPLICATION.
-/
import Derived.Shelf.Small.Strs
import Derived.Shelf.LaysM
import Derived.Shelf.Strconv.Clone
import Derived.Shelf.Strings.Search1
import Derived.Shelf.Slices.Turned
import Derived.Ground.Names2Prog
import Derived.Shelf.Slices.Delete
import Derived.Shelf.Slices.Cells
import Derived.Shelf.Slices.Empties
import Derived.Test.YtbioaoangfiijaaGreatDoorProg
import Derived.Test.YtbioaoangfiijaaGreatDoorM19
set_option maxRecDepth 100000
set_option maxHeartbeats 2000000
namespace Go.Proofs
open Go.Shelf
def Tryz.lays137_ren:Go.Shelf.Ren:=⟨fun | 137 => 110 | 217 => 117 | 266 => 120 | n => n,fun | 9 => 9 | 5 => 5 | 3 => 3 | n => n,fun | n => n⟩
theorem Tryz.lays137:Go.Proofs.Lays.n137 Tryz.prog Tryz.lays137_ren:={
 mixed:=by kernel_rfl
 f137:=Tryz.func110.trans (congrArg some (by kernel_rfl))
 f217:=Tryz.func117.trans (congrArg some (by kernel_rfl))
 f266:=Tryz.func120.trans (congrArg some (by kernel_rfl))
 t3:=Tryz.underlying3
 a3:=Tryz.isAgg3
 z3:=Tryz.sizeOf3
 v3:=Tryz.zeroValue3
 t5:=Tryz.underlying5
 a5:=Tryz.isAgg5
 z5:=Tryz.sizeOf5
 v5:=Tryz.zeroValue5
 t9:=Tryz.underlying9
 a9:=Tryz.isAgg9
 z9:=Tryz.sizeOf9
 v9:=Tryz.zeroValue9 }
open Go.RowKit in
theorem Tryz.strings_IndexByte (s:ByteArray) (c:Int) (w:World) :
  Calls Tryz.prog 110 #[.string s,.int .u8 c] w fun e w' => e = .returned (.int .i64 (Lib.indexByte s.data.toList c.toNat.toUInt8)) ∧ w' = w:=Any.strings_IndexByte Tryz.lays137 s c w
def Tryz.laysM316_ren:Go.Shelf.Ren:=⟨fun | 316 => 35 | n => n,fun | 9 => 9 | 3 => 3 | 4 => 4 | 37 => 122 | 0 => 0 | 127 => 123 | 5 => 5 | n => n,fun | n => n⟩
theorem Tryz.laysM316:Go.Proofs.LaysM.n316 Tryz.prog Tryz.laysM316_ren:={
 mixed:=by kernel_rfl
 f316:=Tryz.func35.trans (congrArg some (by kernel_rfl))
 t0:=Tryz.underlying0
 a0:=Tryz.isAgg0
 z0:=Tryz.sizeOf0
 v0:=Tryz.zeroValue0
 t3:=Tryz.underlying3
 a3:=Tryz.isAgg3
 z3:=Tryz.sizeOf3
 v3:=Tryz.zeroValue3
 t4:=Tryz.underlying4
 a4:=Tryz.isAgg4
 z4:=Tryz.sizeOf4
 v4:=Tryz.zeroValue4
 t9:=Tryz.underlying9
 a9:=Tryz.isAgg9
 z9:=Tryz.sizeOf9
 v9:=Tryz.zeroValue9
 t37:=Tryz.underlying122
 a37:=Tryz.isAgg122
 z37:=Tryz.sizeOf122
 v37:=Tryz.zeroValue122
 t127:=Tryz.underlying123
 a127:=Tryz.isAgg123
 z127:=Tryz.sizeOf123
 v127:=Tryz.zeroValue123
 t5:=Tryz.underlying5
 a5:=Tryz.isAgg5
 z5:=Tryz.sizeOf5
 v5:=Tryz.zeroValue5
 i0:=by kernel_rfl
 i3:=by kernel_rfl
 i4:=by kernel_rfl
 i5:=by kernel_rfl
 i9:=by kernel_rfl
 i37:=by kernel_rfl
 i127:=by kernel_rfl }
open Go.RowKit in
theorem Tryz.stringslite_Clone (s:ByteArray) (w:World) (hlim:s.size ≤ 281474976710656) :
  Calls Tryz.prog 35 #[.string s] w fun e w' => e = .returned (.string s) ∧ Below w.heap.size w w':=Any.stringslite_Clone Tryz.laysM316 s w hlim
def Tryz.laysNm224_ren:Go.Shelf.Ren:=⟨fun | 24 => 12 | n => n,fun | 24 => 24 | 9 => 9 | 3 => 3 | 4 => 4 | 0 => 0 | n => n,fun | n => n⟩
theorem Tryz.laysNm224:Go.Proofs.Lays2.n24 Tryz.prog Tryz.laysNm224_ren:={
 mixed:=by kernel_rfl
 f24:=Tryz.func12.trans (congrArg some (by kernel_rfl))
 t0:=Tryz.underlying0
 a0:=Tryz.isAgg0
 z0:=Tryz.sizeOf0
 v0:=Tryz.zeroValue0
 t3:=Tryz.underlying3
 a3:=Tryz.isAgg3
 z3:=Tryz.sizeOf3
 v3:=Tryz.zeroValue3
 t4:=Tryz.underlying4
 a4:=Tryz.isAgg4
 z4:=Tryz.sizeOf4
 v4:=Tryz.zeroValue4
 t9:=Tryz.underlying9
 a9:=Tryz.isAgg9
 z9:=Tryz.sizeOf9
 v9:=Tryz.zeroValue9
 t24:=Tryz.underlying24
 a24:=Tryz.isAgg24
 z24:=Tryz.sizeOf24
 v24:=Tryz.zeroValue24
 i9:=by kernel_rfl }
open Go.RowKit Go.Lib Go.Sort in
theorem Tryz.slices_Delete_string_cells (b off n c i j:Nat) (Sx:Nat → ByteArray) (w:World) (hcap:n ≤ c) (hm:c ≤ 9223372036854775807) (hij:i ≤ j) (hj:j ≤ n) (hc:∀ i,i < n → w.cell? ⟨b,off + i,none⟩ = some (.string (Sx i))) (hf:∀ j,j < n → w.frozen? ⟨b,off + j,none⟩ = false) :
  Calls Tryz.prog 12 #[.slice (some ⟨b,off,none⟩) n c,.int .i64 i,.int .i64 j] w fun e w' => e = .returned (.slice (some ⟨b,off,none⟩) (n - (j - i)) c) ∧ ∃ q,w' = (w.drewN q).setCells b off (((Lib.strsOf Sx n).take i ++ (Lib.strsOf Sx n).drop j ++ List.replicate (j - i) []).map encStr):=Any.slices_Delete_string_cells Tryz.laysNm224 b off n c i j Sx w hcap hm hij hj hc hf
end Go.Proofs
/- Who speaks; the walk of only,whoever is asked. -/
namespace Go.Proofs.YtbioaoangfiijaaGreatDoor
open Go.RowKit
namespace Sm
abbrev tvO (Tb L:Nat):Obj:=.cells #[.slice (some ⟨Tb,0,none⟩) L L] 72 (0,0)
abbrev ivO (i:Nat):Obj:=.cells #[.int .i64 (i:Int)] 3 (0,0)
theorem sends_any (B:Nat) (Tb L V I k:Nat) (i:Nat) (cs:List Value) (ts:Nat → Tk) (w:World) (hT:Hid (TaAt B w Tb L cs ts)) (hV:Hid (w.heap[V]? = some (tvO Tb L))) (hI:Hid (w.heap[I]? = some (ivO i))) (hk:k < L) (hf:Hid ((ts k).sends.length ≤ 17000000000000)) :
  Calls Tryz.prog 40 #[.int .i64 (k:Int),.pointer (some ⟨V,0,none⟩),.pointer (some ⟨I,0,none⟩)] w fun e w' => e = .returned (.bool (decide (i ∈ (ts k).sends))) ∧ w.grownBy w' none:=by
 obtain ⟨sn,rc,cl,z0,z1,z2,o1,o2,o3⟩:=hT.out.row k hk
 have HN:Hid (NsIn w (ts k).sends sn):=ns_own o1
 obtain ⟨sa,sc,hsn⟩:=own_form o1
 have c0:w.cell? ⟨V,0,none⟩ = some (.slice (some ⟨Tb,0,none⟩) L L):=by simp [World.cell?,hV.out]
 have c1:w.cell? ⟨I,0,none⟩ = some (.int .i64 (i:Int)):=by simp [World.cell?,hI.out]
 have c2:w.cell? ⟨Tb,k * 3,none⟩ = some sn:=by simp [World.cell?,hT.out.blk,z0]
 rw [hsn] at c2 HN
 have hkp:(k:Int) < (L:Int):=by omega
 clear z0 z1 z2 o1 o2 o3 hsn
 go_enter Tryz.func40,Tryz.ntmps40
 go_wp2_with fail
 refine wp_region_held_drew (S:=fun w' => w'.cell? ⟨V,0,none⟩ = some (.slice (some ⟨Tb,0,none⟩) L L) ∧ w'.cell? ⟨I,0,none⟩ = some (.int .i64 (i:Int)) ∧ w'.cell? ⟨Tb,k * 3,none⟩ = some (.slice sa (ts k).sends.length sc)) (by kernel_rfl) ⟨c0,c1,c2⟩ (fun hHeld => ?_)
 refine tk 0 (v:=?_) rfl ?_ (by assumption) ?_
 rotate_left
 ·intro w hSw
  (try dsimp only at hSw)
  go_simp
  (try with_reducible rfl)
 (try go_frame)
 refine tk 1 (v:=?_) rfl ?_ (by assumption) ?_
 rotate_left
 ·intro w hSw
  (try dsimp only at hSw)
  go_simp
  (try with_reducible rfl)
 (try go_frame)
 refine tk 2 (v:=?_) rfl ?_ (by assumption) ?_
 rotate_left
 ·intro w hSw
  (try dsimp only at hSw)
  go_simp
  (try with_reducible rfl)
 (try go_frame)
 refine tk 3 (v:=?_) rfl ?_ (by assumption) ?_
 rotate_left
 ·intro w hSw
  (try dsimp only at hSw)
  go_simp
  (try with_reducible rfl)
 (try go_frame)
 refine tk 4 (v:=?_) rfl ?_ (by assumption) ?_
 rotate_left
 ·intro w hSw
  (try dsimp only at hSw)
  go_simp
  (try with_reducible rfl)
 (try go_frame)
 refine tk 5 (v:=?_) rfl ?_ (by assumption) ?_
 rotate_left
 ·intro w hSw
  (try dsimp only at hSw)
  go_simp
  (try with_reducible rfl)
 (try go_frame)
 refine wpAnyH_ready (rs:=[6]) (by kernel_rfl) (by simp) ?_
 refine AllReadyH.cons (o:=_) rfl (fun K' hK => ?_) AllReadyH.nil
 go_simp
 refine (contains_any (ts k).sends _ i w.drew (by obtain ⟨a,c,e,h⟩:=HN.out; exact ⟨a,c,e,h⟩) (by have:=hf.out; omega)).mono ?_
 rintro e w1 ⟨hw1,rfl⟩
 subst hw1
 refine hK.out _ _ ⟨c0,c1,c2⟩ (fun hHeld => ?_)
 clear hK
 refine tk 7 (v:=?_) rfl ?_ (by assumption) ?_
 rotate_left
 ·intro w hSw
  (try dsimp only at hSw)
  go_simp
  (try with_reducible rfl)
 (try go_frame)
 refine wpAnyH_done (by kernel_rfl) ?_ _
 dsimp only [List.getElem_toArray,List.getElem_cons_succ,List.getElem_cons_zero]
 go_wp2
 go_ret
 exact ⟨rfl,⟨rfl,rfl,rfl,Nat.le_refl _,fun _ _ _ => rfl⟩⟩
theorem recvs_any (B:Nat) (Tb L V I k:Nat) (i:Nat) (cs:List Value) (ts:Nat → Tk) (w:World) (hT:Hid (TaAt B w Tb L cs ts)) (hV:Hid (w.heap[V]? = some (tvO Tb L))) (hI:Hid (w.heap[I]? = some (ivO i))) (hk:k < L) (hf:Hid ((ts k).recvs.length ≤ 17000000000000)) :
  Calls Tryz.prog 42 #[.int .i64 (k:Int),.pointer (some ⟨V,0,none⟩),.pointer (some ⟨I,0,none⟩)] w fun e w' => e = .returned (.bool (decide (i ∈ (ts k).recvs))) ∧ w.grownBy w' none:=by
 obtain ⟨sn,rc,cl,z0,z1,z2,o1,o2,o3⟩:=hT.out.row k hk
 have HN:Hid (NsIn w (ts k).recvs rc):=ns_own o2
 obtain ⟨sa,sc,hsn⟩:=own_form o2
 have c0:w.cell? ⟨V,0,none⟩ = some (.slice (some ⟨Tb,0,none⟩) L L):=by simp [World.cell?,hV.out]
 have c1:w.cell? ⟨I,0,none⟩ = some (.int .i64 (i:Int)):=by simp [World.cell?,hI.out]
 have c2:w.cell? ⟨Tb,k * 3 + 1,none⟩ = some rc:=by simp [World.cell?,hT.out.blk,z1]
 rw [hsn] at c2 HN
 have hkp:(k:Int) < (L:Int):=by omega
 clear z0 z1 z2 o1 o2 o3 hsn
 go_enter Tryz.func42,Tryz.ntmps42
 go_wp2_with fail
 refine wp_region_held_drew (S:=fun w' => w'.cell? ⟨V,0,none⟩ = some (.slice (some ⟨Tb,0,none⟩) L L) ∧ w'.cell? ⟨I,0,none⟩ = some (.int .i64 (i:Int)) ∧ w'.cell? ⟨Tb,k * 3 + 1,none⟩ = some (.slice sa (ts k).recvs.length sc)) (by kernel_rfl) ⟨c0,c1,c2⟩ (fun hHeld => ?_)
 refine tk 0 (v:=?_) rfl ?_ (by assumption) ?_
 rotate_left
 ·intro w hSw
  (try dsimp only at hSw)
  go_simp
  (try with_reducible rfl)
 (try go_frame)
 refine tk 1 (v:=?_) rfl ?_ (by assumption) ?_
 rotate_left
 ·intro w hSw
  (try dsimp only at hSw)
  go_simp
  (try with_reducible rfl)
 (try go_frame)
 refine tk 2 (v:=?_) rfl ?_ (by assumption) ?_
 rotate_left
 ·intro w hSw
  (try dsimp only at hSw)
  go_simp
  (try with_reducible rfl)
 (try go_frame)
 refine tk 3 (v:=?_) rfl ?_ (by assumption) ?_
 rotate_left
 ·intro w hSw
  (try dsimp only at hSw)
  go_simp
  (try with_reducible rfl)
 (try go_frame)
 refine tk 4 (v:=?_) rfl ?_ (by assumption) ?_
 rotate_left
 ·intro w hSw
  (try dsimp only at hSw)
  go_simp
  (try with_reducible rfl)
 (try go_frame)
 refine tk 5 (v:=?_) rfl ?_ (by assumption) ?_
 rotate_left
 ·intro w hSw
  (try dsimp only at hSw)
  go_simp
  (try with_reducible rfl)
 (try go_frame)
 refine wpAnyH_ready (rs:=[6]) (by kernel_rfl) (by simp) ?_
 refine AllReadyH.cons (o:=_) rfl (fun K' hK => ?_) AllReadyH.nil
 go_simp
 refine (contains_any (ts k).recvs _ i w.drew (by obtain ⟨a,c,e,h⟩:=HN.out; exact ⟨a,c,e,h⟩) (by have:=hf.out; omega)).mono ?_
 rintro e w1 ⟨hw1,rfl⟩
 subst hw1
 refine hK.out _ _ ⟨c0,c1,c2⟩ (fun hHeld => ?_)
 clear hK
 refine tk 7 (v:=?_) rfl ?_ (by assumption) ?_
 rotate_left
 ·intro w hSw
  (try dsimp only at hSw)
  go_simp
  (try with_reducible rfl)
 (try go_frame)
 refine wpAnyH_done (by kernel_rfl) ?_ _
 dsimp only [List.getElem_toArray,List.getElem_cons_succ,List.getElem_cons_zero]
 go_wp2
 go_ret
 exact ⟨rfl,⟨rfl,rfl,rfl,Nat.le_refl _,fun _ _ _ => rfl⟩⟩
theorem sclone_any (s:ByteArray) (w:World) (hlim:s.size ≤ 281474976710656) :
  Calls Tryz.prog 20 #[.string s] w fun e w' => e = .returned (.string s) ∧ w.grownBy w' none:=by
 go_enter Tryz.func20,Tryz.ntmps20
 go_wp2_with (go_at_call 35; refine (Tryz.stringslite_Clone _ _ hlim).mono ?_; rintro e w1 ⟨rfl,hb⟩)
 go_ret
 exact ⟨rfl,⟨hb.os,hb.tape,hb.output,hb.size,fun k hk _ => hb.block k hk⟩⟩
def Found (l:List Sy.Df) (sp:Nat → Bool) (j:Nat) (nm:ByteArray):Prop:=((List.range j).filter sp = [] ∧ nm = ⟨#[]⟩) ∨ ∃ x,(List.range j).filter sp = [x] ∧ nm = (defAt l x).name ∧ x < j
theorem filter_more {sp:Nat → Bool} {x y:Nat} {j L:Nat} (h:(List.range j).filter sp = [x,y] ∨ ∃ z t,(List.range j).filter sp = z :: t ∧ 2 ≤ (z :: t).length) (hj:j ≤ L):2 ≤ ((List.range L).filter sp).length:=by
 have hs:((List.range j).filter sp).length ≤ ((List.range L).filter sp).length:=by
  have:(List.range j).Sublist (List.range L):=List.range_sublist.2 hj
  exact (this.filter _).length_le
 rcases h with h | ⟨z,t,h,h2⟩
 ·rw [h] at hs; simpa using hs
 ·rw [h] at hs; omega
theorem only_any (B:Nat) (l:List Sy.Df) (a:Option Addr) (c M i:Nat) (g:FuncId) (caps:Array Value) (sp:Nat → Bool) (w:World) (r:Except Int Value) (hD:Hid (DfsIn B w l a)) (hB:B ≤ w.heap.size) (hN:Hid (∀ (k:Nat) (d:Sy.Df),l[k]? = some d → d.name ≠ ⟨#[]⟩ ∧ d.name.size ≤ 12)) (hl:l.length ≤ 100000)
  (hcf:∀ (vs:Array Value) (w:World),(callFunc g vs).run Tryz.prog w = .ok (.enter g vs) w) (hS:Hid (∀ (k:Nat) (w':World),k < l.length → w.grownBy w' none → Calls Tryz.prog g (#[.int .i64 (k:Int)] ++ caps) w' fun e w'' => e = .returned (.bool (sp k)) ∧ w'.grownBy w'' none))
  (hr:Hid (r = match Sm.only l sp with | .ok s => .ok (.string s) | .error e => .error e)) :
  Calls Tryz.prog 39 #[lkV l.length a c M (i:Int),.func (.func g) #[] caps] w fun e w' => Fe (i:Int) r w e w':=by
 obtain ⟨L,hL⟩:∃ L,L = l.length:=⟨_,rfl⟩
 have HL:Hid (L = l.length):=hL
 have hl':L ≤ 100000:=by rw [hL]; exact hl
 obtain ⟨W0,hW0⟩:∃ W0,W0 = w.alloc (lkB L a c M (i:Int)):=⟨_,rfl⟩
 have HG0:Hid (w.grownBy W0 none):=by rw [hW0]; exact grown_a _
 have HP0:Hid (W0.heap[w.heap.size]? = some (lkB L a c M (i:Int))):=by rw [hW0]; exact heap_alloc_new _ _
 have HW0:Hid (W0 = _):=hW0
 rw [← hL]
 clear hW0 hL hl
 go_enter Tryz.func39,Tryz.ntmps39
 go_wp2
 rw [← HW0.out]
 go_loopw [5,12] (fun s q wr => ∃ (j:Nat) (nm:ByteArray),s = .string nm ∧ q = .int .i64 j ∧ j ≤ L ∧ Hid (W0.grownBy wr none) ∧ Hid (Found l sp j nm)) (fun _ q _ => L - (intOf q).toNat)
 case atStart => exact ⟨0,⟨#[]⟩,rfl,rfl,Nat.zero_le _,World.grownBy.refl _ _,.inl ⟨rfl,rfl⟩⟩
 case round =>
  obtain ⟨j,nm,rfl,rfl,hj,HG,HF⟩:=hrel
  have HGw:Hid (w.grownBy wr none):=grown_trans HG0.out HG.out
  have hP:wr.heap[w.heap.size]? = some (lkB L a c M (i:Int)):=(HG.out.block _ (lt_of_block HP0.out) (by simp)).trans HP0.out
  by_cases hlt:j < L
  ·have hj1:j < l.length:=by rw [← HL.out]; exact hlt
   obtain ⟨d,hd⟩:∃ d,l[j]? = some d:=⟨_,List.getElem?_eq_getElem hj1⟩
   obtain ⟨b,off,pa,pc,ba,bc,ha,hb,k0,k1,k2,k3,k4,k5,k6,k7,k8,_⟩:=(hD.out.same (same_grown HGw.out (by simp) hB)).2 j d hd
   have hda:defAt l j = d:=by simp [defAt,hd]
   have hbw:b < wr.heap.size:=by have:=HGw.out.size; omega
   have HJ:Hid (j + 1 ≤ L):=hlt
   have hjp:(j:Int) < (L:Int):=by omega
   have HG1:Hid (w.grownBy (wr.alloc (dfB d pa pc ba bc)) none):=grown_trans HGw.out (grown_a _)
   have HC:=hid (hS.out j _ hj1 HG1.out)
   have HNd:=hid (hN.out j d hd)
   have HDA:=hid hda
   have hPl:=lt_of_block hP
   have HP:=hid hP
   subst ha
   clear hd hda hP
   go_wp2_with fail
   refine HC.out.mono ?_
   rintro e w1 ⟨rfl,hg1⟩
   have HGa:Hid (W0.grownBy w1 none):=grown_trans (grown_trans HG.out (grown_a _)) hg1
   have hb1:w1.heap[wr.heap.size]? = some (dfB d pa pc ba bc):=(hg1.block _ (by simp) (by simp)).trans (heap_alloc_new _ _)
   have hp1:w1.heap[w.heap.size]? = some (lkB L (some ⟨b,off,none⟩) c M (i:Int)):=(hg1.block _ (by simp; omega) (by simp)).trans ((Below.heap_alloc _ _ _ hPl).trans HP.out)
   obtain ⟨_,n1,_⟩:=nine_cell hb1
   obtain ⟨u0,u1,u2⟩:=three_cell hp1
   have hrs:(List.range (j + 1)).filter sp = (List.range j).filter sp ++ (if sp j = true then [j] else []):=by rw [List.range_succ,List.filter_append]; cases hsp:sp j <;> simp [hsp]
   cases hsp:sp j with
   | false =>
    have HF1:Hid (Found l sp (j + 1) nm):=by
     rw [hsp] at hrs
     simp at hrs
     rcases HF.out with ⟨h1,h2⟩ | ⟨x,h1,h2,h3⟩
     ·exact .inl ⟨by rw [hrs]; exact h1,h2⟩
     ·exact .inr ⟨x,by rw [hrs]; exact h1,h2,by omega⟩
    clear hg1 hb1 hp1 hrs hsp
    go_wp2
    go_roundw
    case rel => exact ⟨j + 1,nm,rfl,by go_num,HJ.out,HGa,HF1⟩
    case measure => have:=HJ.out; simp [intOf]; omega
   | true =>
    rw [hsp] at hrs
    simp only [if_true] at hrs
    rcases HF.out with ⟨h1,h2⟩ | ⟨x,h1,h2,h3⟩
    ·subst h2
     have HF1:Hid (Found l sp (j + 1) d.name):=.inr ⟨j,by rw [hrs,h1]; rfl,by rw [HDA.out],by omega⟩
     have hdn:d.name.size ≤ 281474976710656:=by have:=HNd.out.2; omega
     clear hg1 hb1 hp1 hrs hsp h1 HF
     go_wp2_with (go_at_call 20; refine (sclone_any d.name _ hdn).mono ?_; rintro e w2 ⟨rfl,hg2⟩; have HG2:Hid (W0.grownBy w2 none):=grown_trans HGa.out hg2; clear hg2)
     go_wp2
     go_roundw
     case rel => exact ⟨j + 1,d.name,rfl,by go_num,HJ.out,HG2,HF1⟩
     case measure => have:=HJ.out; simp [intOf]; omega
    ·have hx:x < l.length:=by have:=HL.out; omega
     have hne:nm ≠ ⟨#[]⟩:=by
      rw [h2]
      have:=hN.out x l[x] (List.getElem?_eq_getElem hx)
      simpa [defAt,List.getElem?_eq_getElem hx] using this.1
     have HRe:Hid (r = .error 8):=by
      have h4:2 ≤ ((List.range l.length).filter sp).length:=filter_more (x:=0) (y:=0) (.inr ⟨x,[j],by rw [hrs,h1]; rfl,by simp⟩) (by have:=HL.out; have:=HJ.out; omega)
      unfold Hid
      rw [hr.out,Sm.only]
      match hq:(List.range l.length).filter sp with
      | [] => rw [hq] at h4; simp at h4
      | [y] => rw [hq] at h4; simp at h4
      | y :: z :: t => rfl
     have hem:nm.toList.isEmpty = false:=by
      cases hq:nm.toList.isEmpty with
      | false => rfl
      | true =>
       have h5:=list_beq nm ⟨#[]⟩
       rw [List.isEmpty_iff.1 hq,show (⟨#[]⟩:ByteArray).toList = [] by kernel_rfl] at h5
       exact absurd (of_decide_eq_true h5.symm) hne
     clear hg1 hb1 hp1 hrs hsp h1 h2 h3 HF hx hne
     go_wp2_with fail
     refine (fail_any L (some ⟨b,off,none⟩) c M (i:Int) 8 _).mono ?_
     rintro e w9 ⟨rfl,hg9⟩
     have HE:Hid (Fe (i:Int) r w (.panicked [fltE 8 (i:Int)]) w9):=⟨grown_trans (grown_trans HG0.out HGa.out) hg9,by rw [HRe.out]⟩
     clear hg9
     go_wp2
     exact ⟨rfl,HE.out⟩
  ·have HRe:Hid (r = .ok (.string nm)):=by
    have h2:=HL.out
    unfold Hid
    rw [hr.out,Sm.only]
    rcases HF.out with ⟨h1,h3⟩ | ⟨x,h1,h3,_⟩
    ·rw [show l.length = j by omega,h1,h3]
    ·rw [show l.length = j by omega,h1,h3]
   have hjp:¬ (j:Int) < (L:Int):=by omega
   clear hP
   go_wp2
   go_ret
   exact ⟨HGw.out,by rw [HRe.out]; rfl⟩
end Sm
end Go.Proofs.YtbioaoangfiijaaGreatDoor
