/- The walks of number and first. -/
import Derived.Test.YtolfleeidpeomaaGreatDoorM3
import Derived.Test.YtolfleeidpeomaaGreatDoorM1
import Derived.Deep.RegionWith
import Derived.Deep.DeepCutAuto
import Derived.Test.YtolfleeidpeomaaGreatDoorM2
import Derived.Deep.LoopGhost
import Derived.Deep.AppendLies
import Derived.Recover
set_option maxHeartbeats 2000000
namespace Go.Proofs.YtolfleeidpeomaaGreatDoor
open Go.RowKit
/-! A block of four cells. -/
theorem jc {w:World}{b:Nat}{v0 v1 v2 v3:Value}{t:TypeId}(h:w.heap[b]?=some (.cells #[v0,v1,v2,v3] t (0,0))) :
  w.cell? ⟨b,0,none⟩=some v0∧w.cell? ⟨b,1,none⟩=some v1∧w.cell? ⟨b,2,none⟩=some v2∧w.cell? ⟨b,3,none⟩=some v3:=by simp [World.cell?,h]
theorem vg {w:World}{b:Nat}{v0 v1 v2 v3:Value}{t:TypeId}(h:w.heap[b]?=some (.cells #[v0,v1,v2,v3] t (0,0))) :
  w.frozen? ⟨b,0,none⟩=false∧w.frozen? ⟨b,1,none⟩=false∧w.frozen? ⟨b,2,none⟩=false∧w.frozen? ⟨b,3,none⟩=false:=by simp [World.frozen?,h]
theorem UM {w:World}{b o:Nat}{cs:Array Value}{t:TypeId}{m:Nat × Nat}(h:w.heap[b]?=some (.cells cs t m))(u:Value):(w.setCell ⟨b,o,none⟩ u).heap[b]?=some (.cells (cs.setIfInBounds o u) t m):=by
 have hlt:=lt_of_block h
 have h':w.heap[b]=.cells cs t m:=by simpa [Array.getElem?_eq_getElem hlt] using h
 show (w.heap.modify b _)[b]?=_
 rw [Array.getElem?_eq_getElem (by simpa using hlt),Array.getElem_modify_self,h']
 rfl
theorem UN {w:World}{b:Nat}{v0 v1 v2 v3:Value}{t:TypeId}(h:w.heap[b]?=some (.cells #[v0,v1,v2,v3] t (0,0)))(u:Value) :
  (w.setCell ⟨b,2,none⟩ u).heap[b]?=some (.cells #[v0,v1,u,v3] t (0,0)):=by rw [UM h];rfl
theorem UO (s:ByteArray)(w:World)(hs:s.size≤maxLen)(nI:15<s.size) :
  Calls Tryz.prog 96 #[.string s] w fun e w'=>e=.returned (.tuple #[.agg #[.int .i64 0,.string ⟨#[]⟩,.int .i64 0,.int .i64 0],.int .i64 3])∧Below w.heap.size w w':=by
 unfold maxLen at hs
 go_enter Tryz.func96,Tryz.ntmps96
 go_wp2
 refine bodyPost_ret (v:=.tuple #[.agg #[.int .i64 0,.string ⟨#[]⟩,.int .i64 0,.int .i64 0],.int .i64 3]) (by simp [results,Tryz.results96,go_sem]) rfl ⟨rfl,?_⟩
 exact (Below.refl _ w).alloc (Nat.le_refl _) _
theorem UQ (s:ByteArray)(k:Nat)(h:k<s.size):Lx.kI (s.data.toList.take (k+1))=Lx.kI (s.data.toList.take k) * 10+(s[k].toNat - 48):=by
 rw [EU s k h,Lx.EX]
theorem UR (s:ByteArray)(k:Nat)(hk:k≤15)(hd:∀ c ∈ s.data.toList,Lx.dB c=true):Lx.kI (s.data.toList.take k)≤1000000000000000:=by
 have h:=Lx.La (s.data.toList.take k) (fun c hc=>hd c (List.mem_of_mem_take hc))
 have h2:(s.data.toList.take k).length≤15:=Nat.le_trans (List.length_take_le _ _) hk
 have h3:10 ^ (s.data.toList.take k).length≤10 ^ 15:=Nat.pow_le_pow_right (by decide) h2
 have h4:(10:Nat) ^ 15=1000000000000000:=by decide
 omega
theorem UT (s:ByteArray)(k:Nat)(h:k<s.size)(hd:∀ c ∈ s.data.toList,Lx.dB c=true):48≤s[k].toNat∧s[k].toNat≤57:=by
 have:=hd s[k] (List.getElem_mem (l:=s.data.toList) (by simpa using h))
 exact of_decide_eq_true this
theorem LD {B:Nat}{a w:World}(h:Below B a w){b o:Nat}(hb:B≤b)(u:Value):Below B a (w.setCell ⟨b,o,none⟩ u):=h.setCell (p:=⟨b,o,none⟩) hb u
theorem UU (s:ByteArray)(w:World)(nI:s.size≤15)(hd:∀ c ∈ s.data.toList,Lx.dB c=true) :
  Calls Tryz.prog 96 #[.string s] w fun e w'=>e=.returned (.tuple #[.agg #[.int .i64 2,.string s,.int .i64 (Lx.kI s.data.toList:Nat),.int .i64 0],.int .i64 0])∧Below w.heap.size w w':=by
 have HD:Hid (∀ c ∈ s.data.toList,Lx.dB c=true):=hd
 clear hd
 have hdec:decide ((15:Int)<(s.size:Int))=false:=by simp;omega
 go_enter Tryz.func96,Tryz.ntmps96
 go_wp2_with fail
 refine (Fa _ _ _ (by omega)).mono ?_
 rintro e w1 ⟨rfl,hb⟩
 have hR:w1.heap[w.heap.size]?=some (.cells #[.int .i64 0,.string ⟨#[]⟩,.int .i64 0,.int .i64 0] 88 (0,0)):=by
  rw [hb.block _ (by simp)];exact heap_alloc_new w _
 have hB:Below w.heap.size w w1:=((Below.refl _ w).alloc (Nat.le_refl _) _).trans (hb.mono (by simp))
 have hlt1:w.heap.size<w1.heap.size:=lt_of_block hR
 have HR:Hid (w1.heap[w.heap.size]?=some (.cells #[.int .i64 0,.string ⟨#[]⟩,.int .i64 0,.int .i64 0] 88 (0,0))):=hR
 clear hR hb
 go_wp2
 go_loopw [14] (fun i wr=>∃ k:Nat,k≤s.size∧i=.int .i64 k∧wr.heap[w1.heap.size]?=some (.cells #[.int .i64 2,.string s,.int .i64 (Lx.kI (s.data.toList.take k):Nat),.int .i64 0] 88 (0,0))∧wr.heap[w.heap.size]?=some (.cells #[.int .i64 0,.string ⟨#[]⟩,.int .i64 0,.int .i64 0] 88 (0,0))∧Below w.heap.size w wr) (fun i _=>s.size - (intOf i).toNat)
 case atStart=>exact ⟨0,Nat.zero_le _,rfl,heap_alloc_new w1 _,by rw [Below.heap_alloc _ _ _ hlt1];exact HR.out,hB.alloc (Nat.le_of_lt hlt1) _⟩
 case round =>
  obtain ⟨k,hk,rfl,hT,hR,hbel⟩:=hrel
  obtain ⟨c0,c1,c2,c3⟩:=jc hT
  obtain ⟨f0,f1,f2,f3⟩:=vg hT
  have hNb:=UR s k (by omega) HD.out
  obtain ⟨N,hN⟩:∃ N,N=Lx.kI (s.data.toList.take k):=⟨_,rfl⟩
  rw [← hN] at c2 hNb hT
  have HN:Hid (N=Lx.kI (s.data.toList.take k)):=hN
  have HT:Hid (wr.heap[w1.heap.size]?=some (.cells #[.int .i64 2,.string s,.int .i64 (N:Nat),.int .i64 0] 88 (0,0))):=hT
  have HR2:Hid (wr.heap[w.heap.size]?=some (.cells #[.int .i64 0,.string ⟨#[]⟩,.int .i64 0,.int .i64 0] 88 (0,0))):=hR
  obtain ⟨d0,d1,d2,d3⟩:=jc hR
  obtain ⟨g0,g1,g2,g3⟩:=vg hR
  clear hN hT hR
  by_cases hlt:k<s.size
  ·have hdb:=UT s k hlt HD.out
   go_wp2
   go_region
   all_goals go_wp2
   go_roundw
   case rel =>
    refine ⟨k+1,by omega,by go_num,?_,?_,(LD hbel (Nat.le_of_lt hlt1) _).drew⟩
    ·show (wr.setCell ⟨w1.heap.size,2,none⟩ _).heap[w1.heap.size]?=_
     rw [UN HT.out,UQ s k hlt,← HN.out]
     have e:(N:Int) * 10+((s[k].toNat:Int) - 48)=((N * 10+(s[k].toNat - 48):Nat):Int):=by omega
     rw [e]
    ·show (wr.setCell ⟨w1.heap.size,2,none⟩ _).heap[w.heap.size]?=_
     rw [Below.heap_setCell _ _ _ _ (by show w.heap.size≠w1.heap.size;omega)];exact HR2.out
   case measure=>simp [intOf];omega
  ·go_wp2
   refine bodyPost_ret (v:=.tuple #[.agg #[.int .i64 2,.string s,.int .i64 (N:Nat),.int .i64 0],.int .i64 0]) (by simp [results,Tryz.results96,go_sem,d0,d1,d2,d3]) rfl ⟨?_,xD hbel (Nat.le_refl _) _ _ _ _⟩
   rw [HN.out,List.take_of_length_le (by simp;omega)]
theorem extract_size (s:ByteArray)(n:Nat)(h:n≤s.size):(s.extract 0 n).size=n:=by simp;omega
theorem LF (s:ByteArray)(n:Nat):(s.extract 0 n).data.toList=s.data.toList.take n:=by
 rw [ByteArray.data_extract];simp
theorem UW (s:ByteArray)(w:World)(h0:0<s.size)(hs:s.size≤6000)(hl:Lx.isLet s[0]=true) :
  Calls Tryz.prog 62 #[.string s] w fun e w'=>e=.returned (.tuple #[.agg #[.int .i64 1,.string (s.extract 0 (Lx.span Lx.gP s.data.toList)),.int .i64 0,.int .i64 0],.int .i64 0])∧Below w.heap.size w w':=by
 have hsp2:Lx.span Lx.gP s.data.toList≤s.size:=by simpa using Lx.zh Lx.gP s.data.toList
 go_enter Tryz.func62,Tryz.ntmps62
 go_wp2_with fail
 refine (qF _ _).mono ?_
 rintro e w1 ⟨rfl,rfl⟩
 go_wp2_with fail
 refine (EW s _ (by unfold maxLen;omega)).mono ?_
 rintro e w1 ⟨rfl,rfl⟩
 go_wp2_with fail
 refine (Fa _ _ _ (by rw [extract_size _ _ hsp2];omega)).mono ?_
 rintro e w1 ⟨rfl,hb⟩
 obtain ⟨hc,hf⟩:=zk hb
 have hlt:w.heap.size<w1.heap.size:=by have:=hb.size;simp at this;omega
 go_wp2
 refine bodyPost_ret (v:=.tuple #[.agg #[.int .i64 1,.string (s.extract 0 (Lx.span Lx.gP s.data.toList)),.int .i64 0,.int .i64 0],.int .i64 0]) (by simp [results,Tryz.results62,go_sem,hc]) rfl ⟨rfl,?_⟩
 exact xD (((Below.refl _ w).alloc (Nat.le_refl _) _).trans (hb.mono (by simp))) (Nat.le_refl _) _ _ _ _
theorem UX (s:ByteArray)(w:World)(h0:0<s.size)(hs:s.size≤6000)(hl:Lx.isLet s[0]=false)(hd:Lx.dB s[0]=true)(nI:15<Lx.span Lx.dB s.data.toList) :
  Calls Tryz.prog 62 #[.string s] w fun e w'=>e=.returned (.tuple #[.agg #[.int .i64 0,.string ⟨#[]⟩,.int .i64 0,.int .i64 0],.int .i64 3])∧Below w.heap.size w w':=by
 have hsp2:Lx.span Lx.dB s.data.toList≤s.size:=by simpa using Lx.zh Lx.dB s.data.toList
 go_enter Tryz.func62,Tryz.ntmps62
 go_wp2_with fail
 refine (qF _ _).mono ?_
 rintro e w1 ⟨rfl,rfl⟩
 go_wp2_with fail
 refine (tK _ _).mono ?_
 rintro e w1 ⟨rfl,rfl⟩
 go_wp2_with fail
 refine (Lp s _ (by unfold maxLen;omega)).mono ?_
 rintro e w1 ⟨rfl,rfl⟩
 go_wp2_with fail
 refine (UO _ _ (by rw [extract_size _ _ hsp2];unfold maxLen;omega) (by rw [extract_size _ _ hsp2];omega)).mono ?_
 rintro e w1 ⟨rfl,hb⟩
 obtain ⟨hc,hf⟩:=zk hb
 have hlt:w.heap.size<w1.heap.size:=by have:=hb.size;simp at this;omega
 go_wp2
 refine bodyPost_ret (v:=.tuple #[.agg #[.int .i64 0,.string ⟨#[]⟩,.int .i64 0,.int .i64 0],.int .i64 3]) (by simp [results,Tryz.results62,go_sem,hc]) rfl ⟨rfl,?_⟩
 exact xD (((Below.refl _ w).alloc (Nat.le_refl _) _).trans (hb.mono (by simp))) (Nat.le_refl _) _ _ _ _
theorem UY (s:ByteArray)(w:World)(h0:0<s.size)(hs:s.size≤6000)(hl:Lx.isLet s[0]=false)(hd:Lx.dB s[0]=true)(nI:Lx.span Lx.dB s.data.toList≤15) :
  Calls Tryz.prog 62 #[.string s] w fun e w'=>e=.returned (.tuple #[.agg #[.int .i64 2,.string (s.extract 0 (Lx.span Lx.dB s.data.toList)),.int .i64 (Lx.kI (s.extract 0 (Lx.span Lx.dB s.data.toList)).data.toList:Nat),.int .i64 0],.int .i64 0])∧Below w.heap.size w w':=by
 have hsp2:Lx.span Lx.dB s.data.toList≤s.size:=by simpa using Lx.zh Lx.dB s.data.toList
 go_enter Tryz.func62,Tryz.ntmps62
 go_wp2_with fail
 refine (qF _ _).mono ?_
 rintro e w1 ⟨rfl,rfl⟩
 go_wp2_with fail
 refine (tK _ _).mono ?_
 rintro e w1 ⟨rfl,rfl⟩
 go_wp2_with fail
 refine (Lp s _ (by unfold maxLen;omega)).mono ?_
 rintro e w1 ⟨rfl,rfl⟩
 go_wp2_with fail
 refine (UU _ _ (by rw [extract_size _ _ hsp2];omega) (by rw [LF];exact Lx.EY _ _)).mono ?_
 rintro e w1 ⟨rfl,hb⟩
 obtain ⟨hc,hf⟩:=zk hb
 have hlt:w.heap.size<w1.heap.size:=by have:=hb.size;simp at this;omega
 go_wp2
 refine bodyPost_ret (v:=.tuple #[.agg #[.int .i64 2,.string (s.extract 0 (Lx.span Lx.dB s.data.toList)),.int .i64 (Lx.kI (s.extract 0 (Lx.span Lx.dB s.data.toList)).data.toList:Nat),.int .i64 0],.int .i64 0]) (by simp [results,Tryz.results62,go_sem,hc]) rfl ⟨rfl,?_⟩
 exact xD (((Below.refl _ w).alloc (Nat.le_refl _) _).trans (hb.mono (by simp))) (Nat.le_refl _) _ _ _ _
theorem UZ (s:ByteArray)(w:World)(h0:0<s.size)(_hs:s.size≤6000)(hl:Lx.isLet s[0]=false)(hd:Lx.dB s[0]=false)(hz:Lx.iq s.data.toList=0) :
  Calls Tryz.prog 62 #[.string s] w fun e w'=>e=.returned (.tuple #[.agg #[.int .i64 0,.string ⟨#[]⟩,.int .i64 0,.int .i64 0],.int .i64 2])∧Below w.heap.size w w':=by
 go_enter Tryz.func62,Tryz.ntmps62
 go_wp2_with fail
 refine (qF _ _).mono ?_
 rintro e w1 ⟨rfl,rfl⟩
 go_wp2_with fail
 refine (tK _ _).mono ?_
 rintro e w1 ⟨rfl,rfl⟩
 go_wp2_with fail
 refine (LC _ _ h0).mono ?_
 rintro e w1 ⟨rfl,rfl⟩
 go_wp2
 refine bodyPost_ret (v:=.tuple #[.agg #[.int .i64 0,.string ⟨#[]⟩,.int .i64 0,.int .i64 0],.int .i64 2]) (by simp [results,Tryz.results62,go_sem]) rfl ⟨rfl,?_⟩
 exact (Below.refl _ w).alloc (Nat.le_refl _) _
theorem U0 (s:ByteArray)(w:World)(h0:0<s.size)(hs:s.size≤6000)(hl:Lx.isLet s[0]=false)(hd:Lx.dB s[0]=false)(hz:Lx.iq s.data.toList≠0) :
  Calls Tryz.prog 62 #[.string s] w fun e w'=>e=.returned (.tuple #[.agg #[.int .i64 3,.string (s.extract 0 (Lx.iq s.data.toList)),.int .i64 0,.int .i64 0],.int .i64 0])∧Below w.heap.size w w':=by
 have hsp2:Lx.iq s.data.toList≤s.size:=by simpa using Lx.Lb s.data.toList
 have hz':((Lx.iq s.data.toList:Nat):Int)≠0:=by omega
 have hzb:(((Lx.iq s.data.toList:Nat):Int)==0)=false:=by simp;omega
 go_enter Tryz.func62,Tryz.ntmps62
 go_wp2_with fail
 refine (qF _ _).mono ?_
 rintro e w1 ⟨rfl,rfl⟩
 go_wp2_with fail
 refine (tK _ _).mono ?_
 rintro e w1 ⟨rfl,rfl⟩
 go_wp2_with fail
 refine (LC _ _ h0).mono ?_
 rintro e w1 ⟨rfl,rfl⟩
 go_wp2_with fail
 refine (Fa _ _ _ (by rw [extract_size _ _ hsp2];omega)).mono ?_
 rintro e w1 ⟨rfl,hb⟩
 obtain ⟨hc,hf⟩:=zk hb
 have hlt:w.heap.size<w1.heap.size:=by have:=hb.size;simp at this;omega
 go_wp2
 refine bodyPost_ret (v:=.tuple #[.agg #[.int .i64 3,.string (s.extract 0 (Lx.iq s.data.toList)),.int .i64 0,.int .i64 0],.int .i64 0]) (by simp [results,Tryz.results62,go_sem,hc]) rfl ⟨rfl,?_⟩
 exact xD (((Below.refl _ w).alloc (Nat.le_refl _) _).trans (hb.mono (by simp))) (Nat.le_refl _) _ _ _ _
theorem extract_zero (s:ByteArray):s.extract 0 0=⟨#[]⟩:=by apply ByteArray.ext;simp
theorem U1 (s:ByteArray)(w:World)(h0:0<s.size)(hs:s.size≤6000)(E K N M:Nat)(hF:Lx.dP s.data.toList=(E,K,N,M)) :
  Calls Tryz.prog 62 #[.string s] w fun e w'=>e=.returned (.tuple #[.agg #[.int .i64 K,.string (s.extract 0 N),.int .i64 M,.int .i64 0],.int .i64 E])∧Below w.heap.size w w':=by
 have hF':=hF
 rw [Lx.xA s h0] at hF'
 simp only [Lx.dP] at hF'
 rw [← Lx.xA s h0] at hF'
 cases hl:Lx.isLet s[0]
 ·rw [hl] at hF'
  cases hd:Lx.dB s[0]
  ·rw [hd] at hF'
   by_cases hz:Lx.iq s.data.toList=0
   ·simp [hz] at hF'
    obtain ⟨rfl,rfl,rfl,rfl⟩:=hF'
    rw [extract_zero]
    exact UZ s w h0 hs hl hd hz
   ·simp [hz] at hF'
    obtain ⟨rfl,rfl,rfl,rfl⟩:=hF'
    exact U0 s w h0 hs hl hd hz
  ·rw [hd] at hF'
   by_cases nI:15<Lx.span Lx.dB s.data.toList
   ·simp [nI] at hF'
    obtain ⟨rfl,rfl,rfl,rfl⟩:=hF'
    rw [extract_zero]
    exact UX s w h0 hs hl hd nI
   ·simp [nI] at hF'
    obtain ⟨rfl,rfl,rfl,rfl⟩:=hF'
    rw [← LF]
    exact UY s w h0 hs hl hd (by omega)
 ·rw [hl] at hF'
  simp at hF'
  obtain ⟨rfl,rfl,rfl,rfl⟩:=hF'
  exact UW s w h0 hs hl
theorem vk {B A:Nat}{W w1:World}{v:Value}{t:TypeId}(hb:Below B W w1)(hl:A<B)(h:W.heap[A]?=some (.cells #[v] t (0,0))):w1.heap[A]?=some (.cells #[v] t (0,0)):=(hb.block A hl).trans h
theorem xE {w:World}{A:Nat}{o:Obj}(h:w.heap[A]?=some o)(o1 o2:Obj):((w.alloc o1).alloc o2).heap[A]?=some o:=by
 have:=lt_of_block h
 rw [Below.heap_alloc _ _ _ (by simp;omega),Below.heap_alloc _ _ _ this];exact h
theorem U2 (s:ByteArray)(a g:Nat)(w:World)(hs:s.size≤6000)(hg:Hid (Lx.jS false (s.data.toList.drop a)=g)) :
  Calls Tryz.prog 61 #[.string (s.extract a s.size)] w fun e w'=>e=.returned (.int .i64 (g:Int))∧Below w.heap.size w w':=by
 have h:=UD (s.extract a s.size) w (by simp;unfold maxLen;omega)
 rw [extract_to_end,hg.out] at h
 exact h
abbrev Z4:Obj:=.cells #[.int .i64 0,.string ⟨#[]⟩,.int .i64 0,.int .i64 0] 88 (0,0)
abbrev Z2:Obj:=.cells #[.int .i64 0,.int .i64 0] 26 (0,0)
def AtRel (s:ByteArray)(A S p:Nat)(w wx:World):Prop :=
 wx.heap[A]?=some (.cells #[.int .i64 p] 3 (0,0))∧wx.heap[S]?=some (.cells #[.string s] 9 (0,0))∧wx.heap[w.heap.size]?=some Z4∧wx.heap[w.heap.size+1]?=some Z2∧w.grownBy wx (some A)
theorem LG {w w1:World}(h:Below w.heap.size w w1)(r:Option Nat):w.grownBy w1 r:=⟨h.os,h.tape,h.output,h.size,fun k hk _=>h.block k hk⟩
theorem U3 {s:ByteArray}{A S a p:Nat}{w w1:World}(hA:w.heap[A]?=some (.cells #[.int .i64 a] 3 (0,0)))(hS:w.heap[S]?=some (.cells #[.string s] 9 (0,0)))
  (hb:Below ((w.alloc Z4).alloc Z2).heap.size ((w.alloc Z4).alloc Z2) w1) {v:Int} (hv:v=p):AtRel s A S p w (w1.setCell ⟨A,0,none⟩ (.int .i64 v)):=by
 subst hv
 have hlA:=lt_of_block hA
 have Ff:=lt_of_block hS
 have hne:A≠S:=by intro e;subst e;rw [hA] at hS;simp at hS
 have e1:((w.alloc Z4).alloc Z2).heap[w.heap.size]?=some Z4:=by
  rw [Below.heap_alloc _ _ _ (by simp)];exact heap_alloc_new w _
 have e2:((w.alloc Z4).alloc Z2).heap[w.heap.size+1]?=some Z2:=by
  have:=heap_alloc_new (w.alloc Z4) Z2
  simpa using this
 refine ⟨?_,?_,?_,?_,?_⟩
 ·exact one_setCell (vk hb (by simp;omega) (xE hA _ _))
 ·rw [Below.heap_setCell _ _ _ _ (by show S≠A;omega)];exact vk hb (by simp;omega) (xE hS _ _)
 ·rw [Below.heap_setCell _ _ _ _ (by show w.heap.size≠A;omega),hb.block _ (by simp;omega)];exact e1
 ·rw [Below.heap_setCell _ _ _ _ (by show w.heap.size+1≠A;omega),hb.block _ (by simp)];exact e2
 ·refine aB (LG ?_ _) (Ch _ _ _)
  exact (((Below.refl _ w).alloc (Nat.le_refl _) _).alloc (by simp) _).trans (hb.mono (by simp;omega))
theorem LH (s:ByteArray)(p E K N M:Nat)(w:World)(hs:s.size≤6000)(hp:p<s.size)(hF:Hid (Lx.dP (s.data.toList.drop p)=(E,K,N,M))) :
  Calls Tryz.prog 62 #[.string (s.extract p s.size)] w fun e w'=>e=.returned (.tuple #[.agg #[.int .i64 K,.string (s.extract p (p+N)),.int .i64 M,.int .i64 0],.int .i64 E])∧Below w.heap.size w w':=by
 have hl:=Lx.Ci hF.out
 have h:=U1 (s.extract p s.size) w (by simp;omega) (by simp;omega) E K N M (by rw [extract_to_end];exact hF.out)
 rw [Un s p N (by simpa using hl)] at h
 exact h
def GA (w:World)(A p:Nat)(X:World):Prop:=w.grownBy X (some A)∧X.heap[A]?=some (.cells #[.int .i64 p] 3 (0,0))
theorem GA.alloc {w X:World}{A p:Nat}(h:GA w A p X)(o:Obj):GA w A p (X.alloc o) :=
 ⟨aB h.1 (World.grownBy_alloc _ _ _),by rw [Below.heap_alloc _ _ _ (lt_of_block h.2)];exact h.2⟩
theorem GA.set {w X:World}{A p b o:Nat}(h:GA w A p X)(hA:A<w.heap.size)(hb:w.heap.size≤b)(v:Value):GA w A p (X.setCell ⟨b,o,none⟩ v) :=
 ⟨⟨h.1.os,h.1.tape,h.1.output,by simpa [World.setCell] using h.1.size,fun k hk hne=>(Below.heap_setCell _ _ _ _ (by show k≠b;omega)).trans (h.1.block k hk hne)⟩,
  by rw [Below.heap_setCell _ _ _ _ (by show A≠b;omega)];exact h.2⟩
theorem GA.U4 {w X:World}{A p q:Nat}(h:GA w A p X){v:Int}(hv:v=q):GA w A q (X.setCell ⟨A,0,none⟩ (.int .i64 v)):=by
 subst hv;exact ⟨aB h.1 (Ch _ _ _),one_setCell h.2⟩
theorem GA.below {w X Y:World}{A p:Nat}(h:GA w A p X)(hb:Below X.heap.size X Y):GA w A p Y :=
 ⟨aB h.1 (LG hb _),(hb.block _ (lt_of_block h.2)).trans h.2⟩
theorem GA.drew {w X:World}{A p:Nat}(h:GA w A p X):GA w A p X.drew:=⟨⟨h.1.os,h.1.tape,h.1.output,h.1.size,h.1.block⟩,h.2⟩
theorem AtRel.ga {s:ByteArray}{A S p:Nat}{w wx:World}(h:AtRel s A S p w wx):GA w A p wx:=⟨h.2.2.2.2,h.1⟩
theorem U5 (x:Int)(h1:-9223372036854775808≤x)(h2:x≤9223372036854775807):IntKind.i64.wrap x=x:=IntWalk.i64_in x ⟨h1,h2⟩
theorem U6 {B:Nat}{W w1:World}(h:Below B W.drew w1):Below B W w1:=⟨h.os,h.tape,h.output,h.size,h.block⟩
def cutV (s:ByteArray)(p:Nat):Value × Nat :=
 if s.size≤p then (.tuple #[.agg #[.int .i64 0,.string ⟨#[]⟩,.int .i64 0,.int .i64 0],.agg #[.int .i64 0,.int .i64 0]],p)
 else
  let F:=Lx.dP (s.data.toList.drop p)
  if F.1=0 then (.tuple #[.agg #[.int .i64 F.2.1,.string (s.extract p (p+F.2.2.1)),.int .i64 F.2.2.2,.int .i64 p],.agg #[.int .i64 0,.int .i64 0]],p+F.2.2.1)
  else (.tuple #[.agg #[.int .i64 0,.string ⟨#[]⟩,.int .i64 0,.int .i64 0],.agg #[.int .i64 F.1,.int .i64 p]],p)
theorem LJ {s:ByteArray}{p:Nat}(he:s.size≤p):cutV s p=(.tuple #[.agg #[.int .i64 0,.string ⟨#[]⟩,.int .i64 0,.int .i64 0],.agg #[.int .i64 0,.int .i64 0]],p):=by unfold cutV;rw [if_pos he]
theorem LK {s:ByteArray}{p K N M:Nat}(he:¬ s.size≤p)(hF:Lx.dP (s.data.toList.drop p)=(0,K,N,M)) :
  cutV s p=(.tuple #[.agg #[.int .i64 K,.string (s.extract p (p+N)),.int .i64 M,.int .i64 p],.agg #[.int .i64 0,.int .i64 0]],p+N):=by
 unfold cutV;rw [if_neg he,hF];rfl
theorem LM {s:ByteArray}{p E K N M:Nat}(he:¬ s.size≤p)(hF:Lx.dP (s.data.toList.drop p)=(E,K,N,M))(hE:¬ E=0) :
  cutV s p=(.tuple #[.agg #[.int .i64 0,.string ⟨#[]⟩,.int .i64 0,.int .i64 0],.agg #[.int .i64 E,.int .i64 p]],p):=by
 unfold cutV;rw [if_neg he,hF];simp [hE]
theorem U7 (s:ByteArray)(a g p A S:Nat)(w:World)(hs:s.size≤6000)(hA:w.heap[A]?=some (.cells #[.int .i64 a] 3 (0,0)))(hS:w.heap[S]?=some (.cells #[.string s] 9 (0,0)))
  (HG:Hid (Lx.jS false (s.data.toList.drop a)=g)) (hap:a≤p) (HP:Hid (a+g=p)) (hle:p≤s.size) :
  Calls Tryz.prog 60 #[.pointer (some ⟨A,0,none⟩),.pointer (some ⟨S,0,none⟩)] w fun e w'=>e=.returned (cutV s p).1∧GA w A (cutV s p).2 w':=by
 have hlA:=lt_of_block hA
 have Ff:=lt_of_block hS
 have hne:A≠S:=by intro e;subst e;rw [hA] at hS;simp at hS
 have cA:=cell_of_one hA
 have fA:=free_of_one hA
 have cS:=cell_of_one hS
 have fS:=free_of_one hS
 have HA:Hid (w.heap[A]?=some (.cells #[.int .i64 a] 3 (0,0))):=hA
 have HS:Hid (w.heap[S]?=some (.cells #[.string s] 9 (0,0))):=hS
 have i1:(0:Int)≤(a:Int):=by omega
 have i2:(a:Int)≤(s.size:Int):=by omega
 clear hA hS
 go_enter Tryz.func60,Tryz.ntmps60
 go_upto_region 1 with fail
 go_cut [] (fun wx=>AtRel s A S p w wx)
 case first =>
  go_region_with (go_at_call 61;refine (U2 s a g _ hs HG).mono ?_;rintro e w1 ⟨rfl,hb⟩;have cA1:=cell_of_one (vk hb (by simp;omega) (xE HA.out _ _));have fA1:=free_of_one (vk hb (by simp;omega) (xE HA.out _ _));have cS1:=cell_of_one (vk hb (by simp;omega) (xE HS.out _ _)))
  all_goals
   go_wp2_with fail
   go_meet
   exact U3 HA.out HS.out (U6 (by assumption)) (by have:=HP.out;rw [U5 _ (by omega) (by omega)];omega)
 case rest =>
  clear cA fA cS fS i1 i2 HA HS HG HP hap
  obtain ⟨a1,a2,a3,a4,a5⟩:=id hcut
  have HC:Hid (GA w A p wc):=hcut.ga
  have HR:Hid (AtRel s A S p w wc):=hcut
  have cA:=cell_of_one a1
  have fA:=free_of_one a1
  have cS:=cell_of_one a2
  obtain ⟨r0,r1,r2,r3⟩:=jc a3
  obtain ⟨q0,q1,q2,q3⟩:=vg a3
  obtain ⟨t0,t1,y0,y1⟩:=bE a4
  have hz:w.heap.size+1<wc.heap.size:=lt_of_block a4
  clear hcut a1 a2 a3 a4 a5
  by_cases he:s.size≤p
  ·have hb1:((p:Int)==(s.size:Int))=true:=by simp;omega
   have HV:Hid (cutV s p=(.tuple #[.agg #[.int .i64 0,.string ⟨#[]⟩,.int .i64 0,.int .i64 0],.agg #[.int .i64 0,.int .i64 0]],p)):=LJ he
   go_wp2
   refine bodyPost_ret (v:=.tuple #[.agg #[.int .i64 0,.string ⟨#[]⟩,.int .i64 0,.int .i64 0],.agg #[.int .i64 0,.int .i64 0]]) (by simp [results,Tryz.results60,go_sem,r0,r1,r2,r3,t0,t1]) rfl ⟨by rw [HV.out],?_⟩
   rw [HV.out]
   exact (((((HC.out.set hlA (Nat.le_refl _) _).set hlA (Nat.le_refl _) _).set hlA (Nat.le_refl _) _).set hlA (Nat.le_refl _) _).set hlA (Nat.le_succ _) _).set hlA (Nat.le_succ _) _
  ·obtain ⟨E,K,N,M,hF⟩:∃ E K N M,Lx.dP (s.data.toList.drop p)=(E,K,N,M):=⟨_,_,_,_,rfl⟩
   have hb1:((p:Int)==(s.size:Int))=false:=by simp;omega
   have hlen:N≤s.size - p:=by simpa using Lx.Ci hF
   have HF:Hid (Lx.dP (s.data.toList.drop p)=(E,K,N,M)):=hF
   by_cases hE:E=0
   ·subst hE
    have HV:Hid (cutV s p=(.tuple #[.agg #[.int .i64 K,.string (s.extract p (p+N)),.int .i64 M,.int .i64 p],.agg #[.int .i64 0,.int .i64 0]],p+N)):=LK he hF
    clear hF
    go_wp2_with fail
    refine (LH s p 0 K N M _ hs (by omega) HF).mono ?_
    rintro e w2 ⟨rfl,hb2⟩
    have kA:=vk hb2 (by omega) HR.out.1
    have kR:=(hb2.block w.heap.size (by omega)).trans HR.out.2.2.1
    have kZ:=(hb2.block (w.heap.size+1) (by omega)).trans HR.out.2.2.2.1
    have HG2:Hid (GA w A p w2):=HC.out.below hb2
    have U8:=cell_of_one kA
    have U9:=free_of_one kA
    obtain ⟨Fg,Fh,Fj,Fp⟩:=jc kR
    obtain ⟨Va,Vb,Vd,Ve⟩:=vg kR
    obtain ⟨Fq,Fs,Vf,Vg⟩:=bE kZ
    have hz2:w.heap.size+1<w2.heap.size:=lt_of_block kZ
    have hz3:w.heap.size<w2.heap.size:=lt_of_block kR
    have qG:A<w2.heap.size:=lt_of_block kA
    have aeo:(s.extract p (p+N)).size=N:=by simp;omega
    clear kA kR kZ hb2 cA fA cS r0 r1 r2 r3 q0 q1 q2 q3 t0 t1 y0 y1 hz
    go_wp2
    refine bodyPost_ret (v:=.tuple #[.agg #[.int .i64 K,.string (s.extract p (p+N)),.int .i64 M,.int .i64 p],.agg #[.int .i64 0,.int .i64 0]]) (by simp [results,Tryz.results60,go_sem,Fg,Fh,Fj,Fp,Fq,Fs,hz2,hz3]) rfl ⟨by rw [HV.out],?_⟩
    rw [HV.out]
    exact (((((((HG2.out.U4 (q:=p+N) (by omega)).set hlA (Nat.le_refl _) _).set hlA (Nat.le_refl _) _).set hlA (Nat.le_refl _) _).set hlA (Nat.le_refl _) _).set hlA (Nat.le_succ _) _).set hlA (Nat.le_succ _) _).alloc _
   ·have HV:Hid (cutV s p=(.tuple #[.agg #[.int .i64 0,.string ⟨#[]⟩,.int .i64 0,.int .i64 0],.agg #[.int .i64 E,.int .i64 p]],p)):=LM he hF hE
    have hE2:((E:Int)==0)=false:=by simp;omega
    have Vh:((E:Int) != 0)=true:=by simp;omega
    clear hF
    go_wp2_with fail
    refine (LH s p E K N M _ hs (by omega) HF).mono ?_
    rintro e w2 ⟨rfl,hb2⟩
    have kA:=vk hb2 (by omega) HR.out.1
    have kR:=(hb2.block w.heap.size (by omega)).trans HR.out.2.2.1
    have kZ:=(hb2.block (w.heap.size+1) (by omega)).trans HR.out.2.2.2.1
    have HG2:Hid (GA w A p w2):=HC.out.below hb2
    have U8:=cell_of_one kA
    have U9:=free_of_one kA
    obtain ⟨Fg,Fh,Fj,Fp⟩:=jc kR
    obtain ⟨Va,Vb,Vd,Ve⟩:=vg kR
    obtain ⟨Fq,Fs,Vf,Vg⟩:=bE kZ
    have hz2:w.heap.size+1<w2.heap.size:=lt_of_block kZ
    have hz3:w.heap.size<w2.heap.size:=lt_of_block kR
    have qG:A<w2.heap.size:=lt_of_block kA
    clear kA kR kZ hb2 cA fA cS r0 r1 r2 r3 q0 q1 q2 q3 t0 t1 y0 y1 hz
    go_wp2
    go_region
    all_goals
     go_wp2
     refine bodyPost_ret (v:=.tuple #[.agg #[.int .i64 0,.string ⟨#[]⟩,.int .i64 0,.int .i64 0],.agg #[.int .i64 E,.int .i64 p]]) (by simp [results,Tryz.results60,go_sem,Fg,Fh,Fj,Fp,Fq,Fs,hz2,hz3]) rfl ⟨by rw [HV.out],?_⟩
     rw [HV.out]
     exact (((((((HG2.out.set hlA (Nat.le_refl _) _).set hlA (Nat.le_refl _) _).set hlA (Nat.le_refl _) _).set hlA (Nat.le_refl _) _).set hlA (Nat.le_succ _) _).set hlA (Nat.le_succ _) _).alloc _).drew
theorem Vi (s:ByteArray)(w:World) :
  Calls Tryz.prog 32 #[.string s] w fun e w'=>e=.returned (.func (.func 60) #[] #[.pointer (some ⟨w.heap.size+1,0,none⟩),.pointer (some ⟨w.heap.size,0,none⟩)]) ∧
   (w.alloc (.cells #[.string s] 9)).alloc (.cells #[.int .i64 0] 3)=w':=by
 go_enter Tryz.func32,Tryz.ntmps32
 go_wp2
 go_ret
 exact ⟨rfl,rfl⟩
theorem Tryz.Vj:(Tryz.prog.info? 88).map (fun i=>(i.zero,i.size,i.bytes))=some (some (.agg #[.int .i64 0,.string ⟨#[]⟩,.int .i64 0,.int .i64 0]),4,40):=by kernel_rfl
theorem Vk (s:ByteArray)(w:World)(hs:s.size≤maxLen)(hm:6000<s.size) :
  Calls Tryz.prog 13 #[.string s] w fun e w'=>e=.returned (.tuple #[.slice none 0 0,.agg #[.int .i64 4,.int .i64 0]])∧Below w.heap.size w w':=by
 unfold maxLen at hs
 go_enter Tryz.func13,Tryz.ntmps13
 go_wp2
 refine bodyPost_ret (v:=.tuple #[.slice none 0 0,.agg #[.int .i64 4,.int .i64 0]]) (by simp [results,Tryz.results13,go_sem]) rfl ⟨rfl,?_⟩
 exact (Below.refl _ w).alloc (Nat.le_refl _) _
def Fu (s:ByteArray)(w:World)(f:Nat)(v:Value)(wr:World):Prop :=
 ∃ (a:Nat) (done:List Lx.Tk),a≤s.size∧s.size - a<f∧done.length≤a∧wr.heap[w.heap.size+1+1]?=some (.cells #[.int .i64 a] 3 (0,0))∧wr.heap[w.heap.size+1]?=some (.cells #[.string s] 9 (0,0)) ∧
  wr.heap[w.heap.size]?=some Z2∧wr.ownsRow (w.heap.size+3) 88 4 v done.length (Lx.cellsOf done)∧Below w.heap.size w wr ∧
  (Lx.lexFrom (s.size+1) s 0).1=done++(Lx.lexFrom f s a).1∧(Lx.lexFrom (s.size+1) s 0).2=(Lx.lexFrom f s a).2
theorem Vl (s:ByteArray)(w:World):Fu s w (s.size+1) (.slice none 0 0) (((w.alloc (.cells #[.int .i64 0,.int .i64 0] 26)).alloc (.cells #[.string s] 9)).alloc (.cells #[.int .i64 0] 3)):=by
 refine ⟨0,[],Nat.zero_le _,by omega,by simp,?_,?_,?_,World.ownsRow_nil _ _ _ _,?_,by simp,rfl⟩
 ·have:=heap_alloc_new ((w.alloc (.cells #[.int .i64 0,.int .i64 0] 26)).alloc (.cells #[.string s] 9)) (.cells #[.int .i64 0] 3)
  simpa using this
 ·rw [Below.heap_alloc _ _ _ (by simp)]
  have:=heap_alloc_new (w.alloc (.cells #[.int .i64 0,.int .i64 0] 26)) (.cells #[.string s] 9)
  simpa using this
 ·rw [Below.heap_alloc _ _ _ (by simp;omega),Below.heap_alloc _ _ _ (by simp)]
  exact heap_alloc_new w _
 ·exact (((Below.refl _ w).alloc (Nat.le_refl _) _).alloc (by simp) _).alloc (by simp;omega) _
theorem tN {w:World}{B C e size n:Nat}{v:Value}{xs:List Value}(h:w.ownsRow C e size v n xs)(hB:B≤C):w.ownsRow B e size v n xs:=by
 refine ⟨h.1,?_⟩
 rcases h.2 with h2 | ⟨g,cap,cur,hv,hg,r⟩
 ·exact .inl h2
 ·exact .inr ⟨g,cap,cur,hv,Nat.le_trans hB hg,r⟩
theorem own_ne {w:World}{C e size n A:Nat}{v:Value}{xs:List Value}(h:w.ownsRow C e size v n xs)(hA:A<C):v.ownBlock=none∨v.ownBlock≠some A:=by
 cases hv:v.ownBlock with
 | none=>exact .inl rfl
 | some k=>exact .inr (fun e=>by cases e;have:=(h.lt _ hv).1;omega)
def TW (w:World)(v:Value)(l:List Lx.Tk)(X:World):Prop:=X.ownsRow (w.heap.size+3) 88 4 v l.length (Lx.cellsOf l)∧Below w.heap.size w X∧w.heap.size+3≤X.heap.size
theorem TW.ga {w X Y:World}{v:Value}{l:List Lx.Tk}{p:Nat}(h:TW w v l X)(hg:GA X (w.heap.size+1+1) p Y):TW w v l Y :=
 ⟨h.1.kept hg.1 (own_ne h.1 (by omega)),h.2.1.grown hg.1 (by have:=h.2.2;omega) (by intro k hk;cases hk;omega),by have:=hg.1.size;have:=h.2.2;omega⟩
theorem TW.alloc {w X:World}{v:Value}{l:List Lx.Tk}(h:TW w v l X)(o:Obj):TW w v l (X.alloc o) :=
 ⟨h.1.alloc o,h.2.1.alloc (by have:=h.2.2;omega) o,by have:=h.2.2;simp;omega⟩
theorem TW.set {w X:World}{v:Value}{l:List Lx.Tk}{o:Nat}(h:TW w v l X)(u:Value):TW w v l (X.setCell ⟨w.heap.size,o,none⟩ u) :=
 ⟨ownsRow_setCell_below h.1 (by show w.heap.size<w.heap.size+3;omega) u,LD h.2.1 (Nat.le_refl _) u,by have:=h.2.2;simpa [World.setCell] using this⟩
theorem TW.drew {w X:World}{v:Value}{l:List Lx.Tk}(h:TW w v l X):TW w v l X.drew:=⟨h.1,h.2.1.drew,h.2.2⟩
theorem Vm {s:ByteArray}(hm:s.size≤6000)(h0:(Lx.lexFrom (s.size+1) s 0).2.1=0):Lx.lexB s=Lx.lexFrom (s.size+1) s 0:=by
 unfold Lx.lexB;rw [if_neg (by omega),if_pos h0]
theorem Vn {s:ByteArray}(hm:s.size≤6000)(h0:¬ (Lx.lexFrom (s.size+1) s 0).2.1=0):Lx.lexB s=([],(Lx.lexFrom (s.size+1) s 0).2):=by
 unfold Lx.lexB;rw [if_neg (by omega),if_neg h0]
theorem Fv {w:World}{A:Nat}{o:Obj}(h:w.heap[A]?=some o)(o1 o2 o3:Obj):(((w.alloc o1).alloc o2).alloc o3).heap[A]?=some o:=by
 have:=lt_of_block h
 rw [Below.heap_alloc _ _ _ (by simp;omega)];exact xE h o1 o2
theorem Fw {w w':World}{A C e size n:Nat}{v:Value}{xs:List Value}{o:Obj}(hown:w.ownsRow C e size v n xs)(hg:w.grownBy w' v.ownBlock)(hA:A<C)(h:w.heap[A]?=some o):w'.heap[A]?=some o:=by
 rw [hg.block A (lt_of_block h) ?_]
 ·exact h
 ·rcases own_ne hown hA with h1 | h1
  ·rw [h1];simp
  ·exact fun e=>h1 e.symm
theorem Vo {s:ByteArray}{w wr w2 w3:World}{f a p K N M:Nat}{u4 v:Value}{done:List Lx.Tk}{o1 o2 o3:Obj}
  (hd:done.length≤a) (hap:a≤p) (hN:0<N) (hle:p+N≤s.size) (hf:s.size - a<f+1)
  (hS:wr.heap[w.heap.size+1]?=some (.cells #[.string s] 9 (0,0))) (hR:wr.heap[w.heap.size]?=some Z2)
  (hga:GA wr (w.heap.size+1+1) (p+N) w2) (Vp:TW w u4 done w2)
  (hown:w3.ownsRow (w.heap.size+3) 88 4 v (done.length+1) (Lx.cellsOf done++[.int .i64 K,.string (s.extract p (p+N)),.int .i64 M,.int .i64 p]))
  (hg:(((w2.alloc o1).alloc o2).alloc o3).grownBy w3 u4.ownBlock)
  (h1:(Lx.lexFrom (s.size+1) s 0).1=(done++[⟨K,s.extract p (p+N),M,p⟩])++(Lx.lexFrom f s (p+N)).1) (h2:(Lx.lexFrom (s.size+1) s 0).2=(Lx.lexFrom f s (p+N)).2):Fu s w f v w3:=by
 have Ff:=lt_of_block hS
 have ho:=(((Vp.alloc o1).alloc o2).alloc o3)
 refine ⟨p+N,done++[⟨K,s.extract p (p+N),M,p⟩],hle,by omega,by simp;omega,?_,?_,?_,?_,?_,h1,h2⟩
 ·exact Fw ho.1 hg (by omega) (Fv hga.2 o1 o2 o3)
 ·exact Fw ho.1 hg (by omega) (Fv ((hga.1.block _ Ff (by simp)).trans hS) o1 o2 o3)
 ·exact Fw ho.1 hg (by omega) (Fv ((hga.1.block _ (by omega) (by simp;omega)).trans hR) o1 o2 o3)
 ·have e:(done++[(⟨K,s.extract p (p+N),M,p⟩:Lx.Tk)]).length=done.length+1:=by simp
  rw [e,Lx.Uq];exact hown
 ·exact ho.2.1.grown hg (by have:=ho.2.2;omega) (by intro k hk;have:=(ho.1.lt k hk).1;omega)
theorem Vq (K M p:Nat)(t:ByteArray):∀ u ∈ [Value.int .i64 (K:Int),.string t,.int .i64 (M:Int),.int .i64 (p:Int)],u.oneCell'=true:=by
 intro u hu
 simp only [List.mem_cons,List.not_mem_nil,or_false] at hu
 rcases hu with rfl | rfl | rfl | rfl <;> rfl
theorem Vr (s:ByteArray)(w:World)(hm:s.size≤6000) :
  Calls Tryz.prog 13 #[.string s] w fun e w'=>∃ v,e=.returned (.tuple #[v,.agg #[.int .i64 (Lx.lexB s).2.1,.int .i64 (Lx.lexB s).2.2]])∧w'.ownsRow w.heap.size 88 4 v (Lx.lexB s).1.length (Lx.cellsOf (Lx.lexB s).1)∧Below w.heap.size w w':=by
 have hdec:decide ((6000:Int)<(s.size:Int))=false:=by simp;omega
 obtain ⟨i0,hi,hz0,hz1,hz2⟩:=info_parts Tryz.Vj
 go_enter Tryz.func13,Tryz.ntmps13
 go_wp2_with fail
 refine (Vi _ _).mono ?_
 rintro e w1 ⟨rfl,rfl⟩
 go_wp2
 go_loopg [4] (s.size+1) (fun f v wr=>Fu s w f v wr)
 case atStart=>exact Vl s w
 case round =>
  obtain ⟨a,done,ha,hf,hd,hA,hS,hR,hown,hbel,hl1,hl2⟩:=hrel
  obtain ⟨f,rfl⟩:∃ f,gk=f+1:=⟨gk - 1,by omega⟩
  have hH:w.heap.size+1+1<wr.heap.size:=lt_of_block hA
  obtain ⟨p,hp⟩:∃ p,Lx.place s a=p:=⟨_,rfl⟩
  have Vs:p≤s.size:=hp ▸ Lx.Ur s a ha
  have hc:=U7 s a (Lx.jS false (s.data.toList.drop a)) p _ _ wr hm hA hS rfl (by rw [← hp];unfold Lx.place;omega) hp Vs
  have Cn:Hid ((Lx.lexFrom (s.size+1) s 0).1=done++(Lx.lexFrom (f+1) s a).1):=hl1
  have HL2:Hid ((Lx.lexFrom (s.size+1) s 0).2=(Lx.lexFrom (f+1) s a).2):=hl2
  have Co:Hid (Lx.place s a=p):=hp
  have HA:Hid (wr.heap[w.heap.size+1+1]?=some (.cells #[.int .i64 a] 3 (0,0))):=hA
  have HS:Hid (wr.heap[w.heap.size+1]?=some (.cells #[.string s] 9 (0,0))):=hS
  have HR:Hid (wr.heap[w.heap.size]?=some Z2):=hR
  have HB:Hid (Below w.heap.size w wr):=hbel
  have HO:Hid (wr.ownsRow (w.heap.size+3) 88 4 u4 done.length (Lx.cellsOf done)):=hown
  clear hl1 hl2 hp hA hS hR hbel hown
  by_cases he:s.size≤p
  ·rw [LJ he] at hc
   have zl:Hid (Lx.lexB s=(done,0,0)):=by
    have e1:=Lx.EZ (f:=f) Co.out he
    have h1:=Cn.out;have h2:=HL2.out
    rw [e1] at h1 h2
    rw [Vm hm (by rw [h2])]
    exact Prod.ext (by simpa using h1) h2
   go_wp2_with fail
   refine hc.mono ?_
   rintro e w2 ⟨rfl,hga⟩
   have hR2:=(hga.1.block w.heap.size (by omega) (by simp;omega)).trans HR.out
   obtain ⟨t0,t1,y0,y1⟩:=bE hR2
   have hz:=lt_of_block hR2
   clear hR2 hc
   have oJ:Hid (GA wr (w.heap.size+1+1) p w2):=hga
   clear hga
   go_wp2
   refine bodyPost_ret (v:=.tuple #[u4,.agg #[.int .i64 0,.int .i64 0]]) (by simp [results,Tryz.results13,go_sem,t0,t1,hz]) rfl ⟨u4,by rw [zl.out];rfl,?_⟩
   have hT:TW w u4 done wr:=⟨HO.out,HB.out,by omega⟩
   have Cq:=((((hT.ga oJ.out).set (o:=0) (.int .i64 0)).set (o:=1) (.int .i64 0)).alloc (.cells #[.int .i64 0,.string ⟨#[]⟩,.int .i64 0,.int .i64 0] 88)).alloc (.cells #[.int .i64 0,.int .i64 0] 26)
   rw [zl.out]
   exact ⟨tN Cq.1 (by omega),Cq.2.1⟩
  ·obtain ⟨E,K,N,M,hF⟩:∃ E K N M,Lx.dP (s.data.toList.drop p)=(E,K,N,M):=⟨_,_,_,_,rfl⟩
   have hlen:N≤s.size - p:=by simpa using Lx.Ci hF
   by_cases hE:E=0
   ·subst hE
    rw [LK he hF] at hc
    obtain ⟨hN,hK⟩:=Lx.Ld hF
    have e1:=Lx.E5 (f:=f) Co.out he hF
    have ib:Hid ((Lx.lexFrom (s.size+1) s 0).1=(done++[⟨K,s.extract p (p+N),M,p⟩])++(Lx.lexFrom f s (p+N)).1):=by
     have h1:=Cn.out
     rw [e1] at h1
     unfold Hid;rw [h1];simp
    have nK:Hid ((Lx.lexFrom (s.size+1) s 0).2=(Lx.lexFrom f s (p+N)).2):=by
     have h2:=HL2.out
     rw [e1] at h2
     exact h2
    have hap:a≤p:=by have:=Co.out;unfold Lx.place at this;omega
    have hK0:((K:Int)==0)=false:=by simp;omega
    clear hF e1
    go_wp2_with fail
    refine hc.mono ?_
    rintro e w2 ⟨rfl,hga⟩
    have hR2:=(hga.1.block w.heap.size (by omega) (by simp;omega)).trans HR.out
    have hz:=lt_of_block hR2
    have oJ:Hid (GA wr (w.heap.size+1+1) (p+N) w2):=hga
    have zm:Hid (TW w u4 done w2):=TW.ga ⟨HO.out,HB.out,by omega⟩ hga
    have hlo:done.length≤6000:=by omega
    have HW3:Hid ((((w2.alloc (.cells #[.int .i64 K,.string (s.extract p (p+N)),.int .i64 M,.int .i64 p] 88)).alloc (.cells #[.int .i64 0,.int .i64 0] 26)).alloc (.cells #[.int .i64 K,.string (s.extract p (p+N)),.int .i64 M,.int .i64 p] 88)).ownsRow (w.heap.size+3) 88 4 u4 done.length (Lx.cellsOf done)):=(((zm.out.alloc _).alloc _).alloc _).1
    have vo:Hid (∀ j u,[Value.int .i64 (K:Int),.string (s.extract p (p+N)),.int .i64 (M:Int),.int .i64 (p:Int)][j]?=some u→(((w2.alloc (.cells #[.int .i64 K,.string (s.extract p (p+N)),.int .i64 M,.int .i64 p] 88)).alloc (.cells #[.int .i64 0,.int .i64 0] 26)).alloc (.cells #[.int .i64 K,.string (s.extract p (p+N)),.int .i64 M,.int .i64 p] 88)).cell? ((⟨w2.heap.size+1+1,0,none⟩:Addr).add j)=some u):=by
     have:=World.news_of_block (heap_alloc_new ((w2.alloc (.cells #[.int .i64 K,.string (s.extract p (p+N)),.int .i64 M,.int .i64 p] 88)).alloc (.cells #[.int .i64 0,.int .i64 0] 26)) (.cells #[.int .i64 K,.string (s.extract p (p+N)),.int .i64 M,.int .i64 p] 88))
     unfold Hid
     simpa using this
    have hb3:w.heap.size+3≤w2.heap.size:=zm.out.2.2
    clear hR2 hc hga
    go_wp2_with (at_builtin;refine wpList_append_own _ rfl _ _ 53 rfl (w.heap.size+3) 88 i0 _ 4 40 Tryz.underlying53 hi hz0 hz1 hz2 rfl (by decide) _ _ _ rfl HW3.out ⟨w2.heap.size+1+1,0,none⟩ 1 1 [.int .i64 K,.string (s.extract p (p+N)),.int .i64 M,.int .i64 p] rfl rfl vo.out (Vq K M p _) ?c3 ?c4 ?c5 ?_)
    case c3=>unfold maxLen;omega
    case c4=>omega
    case c5=>simp;omega
    ·intro v' w3 hown' hgrow _
     have zn:Hid (w3.ownsRow (w.heap.size+3) 88 4 v' (done.length+1) (Lx.cellsOf done++[.int .i64 K,.string (s.extract p (p+N)),.int .i64 M,.int .i64 p])):=hown'
     clear hown'
     go_wp2
     go_roundg f
     case measure=>omega
     case rel=>exact Vo hd hap hN (by omega) hf HS.out HR.out oJ.out zm.out zn.out hgrow ib.out nK.out
   ·rw [LM he hF hE] at hc
    have zl:Hid (Lx.lexB s=([],E,p)):=by
     have e1:=Lx.Le (f:=f) Co.out he hF hE
     have h2:=HL2.out
     rw [e1] at h2
     rw [Vn hm (by rw [h2];exact hE),h2]
     rfl
    have hE2:((E:Int)==0)=false:=by simp;omega
    have Vh:((E:Int) != 0)=true:=by simp;omega
    clear hF
    go_wp2_with fail
    refine hc.mono ?_
    rintro e w2 ⟨rfl,hga⟩
    have hR2:=(hga.1.block w.heap.size (by omega) (by simp;omega)).trans HR.out
    obtain ⟨t0,t1,y0,y1⟩:=bE hR2
    have hz:=lt_of_block hR2
    have zm:Hid (TW w u4 done w2):=TW.ga ⟨HO.out,HB.out,by omega⟩ hga
    clear hR2 hc hga
    go_wp2
    go_region
    all_goals
     go_wp2
     refine bodyPost_ret (v:=.tuple #[.slice none 0 0,.agg #[.int .i64 E,.int .i64 p]]) (by simp [results,Tryz.results13,go_sem,t0,t1,hz]) rfl ⟨.slice none 0 0,by rw [zl.out],?_⟩
     have Cq:=(((((zm.out).set (o:=0) (.int .i64 E)).set (o:=1) (.int .i64 p)).alloc (.cells #[.int .i64 0,.string ⟨#[]⟩,.int .i64 0,.int .i64 0] 88)).alloc (.cells #[.int .i64 E,.int .i64 p] 26)).drew
     rw [zl.out]
     exact ⟨World.ownsRow_nil _ _ _ _,Cq.2.1⟩
theorem Fx (s:ByteArray)(w:World)(hs:s.size≤maxLen) :
  Calls Tryz.prog 13 #[.string s] w fun e w'=>∃ v,e=.returned (.tuple #[v,.agg #[.int .i64 (Lx.lexB s).2.1,.int .i64 (Lx.lexB s).2.2]])∧w'.ownsRow w.heap.size 88 4 v (Lx.lexB s).1.length (Lx.cellsOf (Lx.lexB s).1)∧Below w.heap.size w w':=by
 by_cases hm:6000<s.size
 ·refine (Vk s w hs hm).mono ?_
  rintro e w' ⟨rfl,hb⟩
  have e:Lx.lexB s=([],4,0):=by unfold Lx.lexB;rw [if_pos hm]
  rw [e]
  exact ⟨.slice none 0 0,rfl,World.ownsRow_nil _ _ _ _,hb⟩
 ·exact Vr s w (by omega)
theorem vv {num er:Int}{w w':World}(hg:w.grownBy w' none)(h:er=0):jb num er w (.returned (.tuple #[])) w':=⟨hg,by rw [if_pos h]⟩
theorem pq {num er k:Int}{w w':World}(hg:w.grownBy w' none)(h:er=k)(hk:k≠0):jb num er w (.panicked [aH k num]) w':=⟨hg,by rw [h,if_neg hk]⟩
theorem oK {num er:Int}{w w':World}{e:Ending}(h:jb num er w e w')(h0:er=0):e=.returned (.tuple #[]):=by rw [h.2,if_pos h0]
theorem oL {num er:Int}{w w':World}{e:Ending}(h:jb num er w e w')(h0:er≠0):e=.panicked [aH er num]:=by rw [h.2,if_neg h0]
theorem zo (num er:Int)(w:World) :
  Calls Tryz.prog 38 #[.int .i64 er,.int .i64 num] w fun e w'=>e=.panicked [aH er num]∧Below w.heap.size w w'∧w'=w:=by
 go_enter Tryz.func38,Tryz.ntmps38
 go_wp2
 exact ⟨rfl,rfl,Below.refl _ _,rfl⟩
theorem jy (C n:Nat)(num er:Int)(w:World)(hC:CK w C num n) :
  Calls Tryz.prog 47 #[.pointer (some ⟨C,0,none⟩),.int .i64 er] w fun e w'=>e=.panicked [aH er num]∧w'=w:=by
 obtain ⟨c0,c1,f0,f1⟩:=hC.cells
 clear hC
 go_enter Tryz.func47,Tryz.ntmps47
 go_wp2_with fail
 refine (zo num er _).mono ?_
 rintro e w1 ⟨rfl,_,rfl⟩
 go_wp2
 exact ⟨rfl,rfl,rfl⟩
theorem tQ (C n:Nat)(num k most er:Int)(w:World)(hC:Hid (CK w C num n))(he:Hid (er=if most<k then 5 else 0)) :
  Calls Tryz.prog 24 #[.pointer (some ⟨C,0,none⟩),.int .i64 k,.int .i64 most] w fun e w'=>jb num er w e w':=by
 by_cases h:most<k
 ·have HE:Hid (er=5):=by rw [if_pos h] at he;exact he
  go_enter Tryz.func24,Tryz.ntmps24
  go_wp2_with fail
  refine (jy C n num 5 _ hC.out).mono ?_
  rintro e w1 ⟨rfl,rfl⟩
  go_wp2
  exact ⟨rfl,pq (mJ _ _) HE.out (by decide)⟩
 ·have HE:Hid (er=0):=by rw [if_neg h] at he;exact he
  go_enter Tryz.func24,Tryz.ntmps24
  go_wp2
  go_end0
  exact vv (mJ _ _) HE.out
theorem Cr (C n:Nat)(num k most er:Int)(w:World)(hC:Hid (CK w C num n))(he:Hid (er=if k<1∨most<k then 1 else 0)) :
  Calls Tryz.prog 80 #[.pointer (some ⟨C,0,none⟩),.int .i64 k,.int .i64 most] w fun e w'=>jb num er w e w':=by
 by_cases h:k<1
 ·have HE:Hid (er=1):=by rw [if_pos (.inl h)] at he;exact he
  go_enter Tryz.func80,Tryz.ntmps80
  go_wp2_with fail
  refine (jy C n num 1 _ hC.out).mono ?_
  rintro e w1 ⟨rfl,rfl⟩
  go_wp2
  exact ⟨rfl,pq (mJ _ _) HE.out (by decide)⟩
 ·by_cases h2:most<k
  ·have HE:Hid (er=1):=by rw [if_pos (.inr h2)] at he;exact he
   go_enter Tryz.func80,Tryz.ntmps80
   go_wp2_with fail
   refine (jy C n num 1 _ hC.out).mono ?_
   rintro e w1 ⟨rfl,rfl⟩
   go_wp2
   exact ⟨rfl,pq (mJ _ _) HE.out (by decide)⟩
  ·have HE:Hid (er=0):=by rw [if_neg (by omega)] at he;exact he
   go_enter Tryz.func80,Tryz.ntmps80
   go_wp2
   go_end0
   exact vv (mJ _ _) HE.out
theorem zq (C n:Nat)(num k least most er:Int)(w:World)(hC:Hid (CK w C num n))(he:Hid (er=if k<least∨most<k then 3 else 0)) :
  Calls Tryz.prog 52 #[.pointer (some ⟨C,0,none⟩),.int .i64 k,.int .i64 least,.int .i64 most] w fun e w'=>jb num er w e w':=by
 by_cases h:k<least
 ·have HE:Hid (er=3):=by rw [if_pos (.inl h)] at he;exact he
  go_enter Tryz.func52,Tryz.ntmps52
  go_wp2_with fail
  refine (jy C n num 3 _ hC.out).mono ?_
  rintro e w1 ⟨rfl,rfl⟩
  go_wp2
  exact ⟨rfl,pq (mJ _ _) HE.out (by decide)⟩
 ·by_cases h2:most<k
  ·have HE:Hid (er=3):=by rw [if_pos (.inr h2)] at he;exact he
   go_enter Tryz.func52,Tryz.ntmps52
   go_wp2_with fail
   refine (jy C n num 3 _ hC.out).mono ?_
   rintro e w1 ⟨rfl,rfl⟩
   go_wp2
   exact ⟨rfl,pq (mJ _ _) HE.out (by decide)⟩
  ·have HE:Hid (er=0):=by rw [if_neg (by omega)] at he;exact he
   go_enter Tryz.func52,Tryz.ntmps52
   go_wp2
   go_end0
   exact vv (mJ _ _) HE.out
theorem jM (C n:Nat)(num er:Int)(s:ByteArray)(w:World)(hC:Hid (CK w C num n))(hs:s.size≤maxLen)(he:Hid (er=if Sy.nm s=false then 7 else 0)) :
  Calls Tryz.prog 49 #[.pointer (some ⟨C,0,none⟩),.string s] w fun e w'=>jb num er w e w':=by
 cases h:Sy.nm s
 ·have HE:Hid (er=7):=by rw [if_pos h] at he;exact he
  have HN:Hid (Lx.named s.toList=false):=h
  clear h
  go_enter Tryz.func49,Tryz.ntmps49
  go_wp2_with fail
  refine (rH s _ hs).mono ?_
  rintro e w1 ⟨rfl,rfl⟩
  rw [HN.out]
  go_wp2_with fail
  refine (jy C n num 7 _ hC.out).mono ?_
  rintro e w1 ⟨rfl,rfl⟩
  go_wp2
  exact ⟨rfl,pq (mJ _ _) HE.out (by decide)⟩
 ·have HE:Hid (er=0):=by rw [if_neg (by rw [h];decide)] at he;exact he
  have HN:Hid (Lx.named s.toList=true):=h
  clear h
  go_enter Tryz.func49,Tryz.ntmps49
  go_wp2_with fail
  refine (rH s _ hs).mono ?_
  rintro e w1 ⟨rfl,rfl⟩
  rw [HN.out]
  go_wp2
  go_end0
  exact vv (mJ _ _) HE.out
end Go.Proofs.YtolfleeidpeomaaGreatDoor
