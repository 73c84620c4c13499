/- The plain functions on bytes that say what the package lex answers; nothing of the program. -/
import Derived.WalkKit
import Derived.Test.YtbioaoangfiijaaGreatDoorRows
import Derived.WalkSpells
import Derived.WalkLawsBesides
import Derived.OneCell
import Derived.Laws.RangeString
import Derived.Laws.RangeAny
import Derived.Lib.SlBytesConst
import Derived.Lib.Bytealg
set_option maxRecDepth 100000
set_option maxHeartbeats 1000000
namespace Go.Proofs.YtbioaoangfiijaaGreatDoor
namespace Lx
def isLet (c:UInt8):Bool:=decide (97 ≤ c.toNat ∧ c.toNat ≤ 122 ∨ c.toNat = 95)
def isDig (c:UInt8):Bool:=decide (48 ≤ c.toNat ∧ c.toNat ≤ 57)
def isBlk (c:UInt8):Bool:=decide (c.toNat = 32 ∨ c.toNat = 9 ∨ c.toNat = 10)
def isWrd (c:UInt8):Bool:=isLet c || isDig c
def span (p:UInt8 → Bool) (l:List UInt8):Nat:=(l.takeWhile p).length
theorem span_at (p:UInt8 → Bool):∀ (l:List UInt8) (k:Nat),(l.take k).all p = true → k ≤ l.length → (∀ x,l[k]? = some x → p x = false) → span p l = k
 | [],k,_,hk,_ => by simp at hk; subst hk; rfl
 | a :: l,0,_,_,he => by
  have:=he a rfl
  simp [span,this]
 | a :: l,k + 1,h,hk,he => by
  simp only [List.take_succ_cons,List.all_cons,Bool.and_eq_true] at h
  have ih:=span_at p l k h.2 (by simpa using hk) (fun x hx => he x (by simpa using hx))
  unfold span at ih ⊢
  rw [List.takeWhile_cons,if_pos h.1,List.length_cons,ih]
theorem all_snoc (p:UInt8 → Bool) (l:List UInt8) (x:UInt8) (h:l.all p = true) (hx:p x = true):(l ++ [x]).all p = true:=by
 rw [List.all_append,h]; simp [hx]
def two (c:UInt8):Bool:=[61,33,60,62].contains c
def one (c:UInt8):Bool:=[60,62,61,43,45,42,47,37,40,41,123,125,44,59].contains c
end Lx
end Go.Proofs.YtbioaoangfiijaaGreatDoor
namespace Go.Proofs.YtbioaoangfiijaaGreatDoor
open Go.RowKit
namespace Lx
theorem byte_cons (s:ByteArray) (h0:0 < s.size):s.data.toList = s[0] :: s.data.toList.drop 1:=by
 have h:=List.drop_eq_getElem_cons (l:=s.data.toList) (i:=0) (by simpa using h0)
 rw [List.drop_zero] at h
 exact h
end Lx
theorem ret_bool {a b:Bool} (h:a = b):Ending.returned (.bool a) = .returned (.bool b):=by rw [h]
theorem ret_int {k:IntKind} {a b:Int} (h:a = b):Ending.returned (.int k a) = .returned (.int k b):=by rw [h]
theorem isLetter_any (c:UInt8) (w:World) :
  Calls Tryz.prog 73 #[.int .u8 (c.toNat:Int)] w fun e w' => e = .returned (.bool (Lx.isLet c)) ∧ w' = w:=by
 go_enter Tryz.func73,Tryz.ntmps73
 go_wp2
 all_goals go_ret
 all_goals refine ⟨ret_bool ?_,rfl⟩
 all_goals unfold Lx.isLet; rw [Bool.eq_iff_iff]; simp; omega
theorem isDigit_any (c:UInt8) (w:World) :
  Calls Tryz.prog 76 #[.int .u8 (c.toNat:Int)] w fun e w' => e = .returned (.bool (Lx.isDig c)) ∧ w' = w:=by
 go_enter Tryz.func76,Tryz.ntmps76
 go_wp2
 all_goals go_ret
 all_goals refine ⟨ret_bool ?_,rfl⟩
 all_goals unfold Lx.isDig; rw [Bool.eq_iff_iff]; simp; omega
theorem isWordByte_any (c:UInt8) (w:World) :
  Calls Tryz.prog 75 #[.int .u8 (c.toNat:Int)] w fun e w' => e = .returned (.bool (Lx.isWrd c)) ∧ w' = w:=by
 unfold Lx.isWrd
 cases hl:Lx.isLet c
 ·go_enter Tryz.func75,Tryz.ntmps75
  go_wp2_with (first | (go_at_call 73; refine (isLetter_any _ _).mono ?_; rintro e w' ⟨rfl,rfl⟩) | (go_at_call 76; refine (isDigit_any _ _).mono ?_; rintro e w' ⟨rfl,rfl⟩))
  go_ret
  exact ⟨rfl,rfl⟩
 ·go_enter Tryz.func75,Tryz.ntmps75
  go_wp2_with (first | (go_at_call 73; refine (isLetter_any _ _).mono ?_; rintro e w' ⟨rfl,rfl⟩) | (go_at_call 76; refine (isDigit_any _ _).mono ?_; rintro e w' ⟨rfl,rfl⟩))
  go_ret
  exact ⟨rfl,rfl⟩
theorem take_snoc (s:ByteArray) (k:Nat) (h:k < s.size):s.data.toList.take (k + 1) = s.data.toList.take k ++ [s[k]]:=by
 rw [List.take_succ_eq_append_getElem (by simpa using h)]; rfl
theorem span_of (p:UInt8 → Bool) (s:ByteArray) (k:Nat) (h:(s.data.toList.take k).all p = true) (hk:k ≤ s.size) (he:∀ hl:k < s.size,p s[k] = false):Lx.span p s.data.toList = k:=by
 refine Lx.span_at p _ k h (by simpa using hk) (fun x hx => ?_)
 obtain ⟨hl,hx⟩:=List.getElem?_eq_some_iff.1 hx
 have hl':k < s.size:=by simpa using hl
 have:=he hl'
 rw [← hx]; exact this
theorem run_word (s:ByteArray) (w:World) (hs:s.size ≤ maxLen) :
  Calls Tryz.prog 70 #[.string s,.func (.func 75) #[] #[]] w fun e w' => e = .returned (.int .i64 (Lx.span Lx.isWrd s.data.toList:Nat)) ∧ w' = w:=by
 unfold maxLen at hs
 go_enter Tryz.func70,Tryz.ntmps70
 go_wp2
 go_loop [5] (fun i => ∃ k:Nat,k ≤ s.size ∧ i = .int .i64 k ∧ (s.data.toList.take k).all Lx.isWrd = true) (fun i => s.size - (intOf i).toNat)
 case atStart => exact ⟨0,Nat.zero_le _,rfl,rfl⟩
 case round =>
  obtain ⟨k,hk,rfl,hall⟩:=hrel
  have HA:Hid ((s.data.toList.take k).all Lx.isWrd = true):=hall
  clear hall
  by_cases hlt:k < s.size
  ·cases hp:Lx.isWrd s[k]
   ·have HP:Hid (Lx.isWrd s[k] = false):=hp
    go_wp2_with (go_at_call 75; refine (isWordByte_any _ _).mono ?_; rintro e w' ⟨rfl,rfl⟩)
    go_ret
    exact ⟨ret_int (by rw [span_of _ s k HA.out hk (fun _ => HP.out)]),rfl⟩
   ·have HP:Hid (Lx.isWrd s[k] = true):=hp
    go_wp2_with (go_at_call 75; refine (isWordByte_any _ _).mono ?_; rintro e w' ⟨rfl,rfl⟩)
    go_round
    case rel => exact ⟨k + 1,by omega,by go_num,by rw [take_snoc s k hlt]; exact Lx.all_snoc _ _ _ HA.out HP.out⟩
    case measure => simp [intOf]; omega
  ·go_wp2
   go_ret
   exact ⟨ret_int (by rw [span_of _ s k HA.out hk (fun h => absurd h hlt)]),rfl⟩
theorem grown_refl (w:World) (r:Option Nat):w.grownBy w r:=⟨rfl,rfl,rfl,Nat.le_refl _,fun _ _ _ => rfl⟩
theorem grown_trans {a b c:World} {r:Option Nat} (h:a.grownBy b r) (k:b.grownBy c r):a.grownBy c r :=
 ⟨k.os.trans h.os,k.tape.trans h.tape,k.output.trans h.output,Nat.le_trans h.size k.size,fun i hi hne => (k.block i (Nat.lt_of_lt_of_le hi h.size) hne).trans (h.block i hi hne)⟩
def Lx.cls (c:UInt8):Nat:=if Lx.isLet c then 1 else if Lx.isDig c then 2 else if Lx.isBlk c then 3 else if c.toNat = 35 then 4 else 5
def Lx.words:List (List UInt8):=[[98,111,120],[102,110],[103,101,110],[116,97,115,107],[116,97,107,101,115],[121,105,101,108,100,115],[108,101,116],[105,102],[101,108,115,101],[119,104,105,108,101],[114,101,116,117,114,110],[115,116,111,112],[115,101,110,100],[111,117,116],[100,111],[114,101,99,118],[121,105,101,108,100],[115,116,97,114,116],[114,101,115,117,109,101],[97,108,105,118,101],[110,117,109],[98,111,111,108],[116,114,117,101],[102,97,108,115,101],[97,110,100],[111,114],[110,111,116]]
def Lx.kept (l:List UInt8):Bool:=Lx.words.contains l
theorem isKept_any (s:ByteArray) (w:World) :
  Calls Tryz.prog 98 #[.string s] w fun e w' => e = .returned (.bool (Lx.kept s.toList)) ∧ w' = w:=by
 go_enter Tryz.func98,Tryz.ntmps98
 go_wp2
 all_goals go_ret
 all_goals refine ⟨ret_bool ?_,rfl⟩
 all_goals
  generalize s.toList = l at *
  simp only [Lx.kept,Lx.words,List.contains_cons]
  simp_all
def Lx.named (l:List UInt8):Bool:=decide (0 < l.length) && decide (l.length ≤ 12) && l.all Lx.isWrd && (l.head?.map Lx.isLet).getD false && !Lx.kept l
theorem toList_eq (s:ByteArray):s.toList = s.data.toList:=Lib.toList_data s
theorem span_all (p:UInt8 → Bool):∀ l:List UInt8,decide (Lx.span p l = l.length) = l.all p
 | [] => by simp [Lx.span]
 | a :: l => by
  have ih:=span_all p l
  unfold Lx.span at ih ⊢
  rw [List.takeWhile_cons,List.all_cons]
  cases h:p a
  ·simp
  ·simp only [if_true,List.length_cons,Bool.true_and]
   rw [← ih]
   simp
theorem named_bad {s:ByteArray} (h:s.size = 0 ∨ 12 < s.size):Lx.named s.toList = false:=by
 rw [toList_eq]
 have e:s.data.toList.length = s.size:=rfl
 unfold Lx.named
 rw [e]
 rcases h with h | h
 ·simp [h]
 ·have:decide (s.size ≤ 12) = false:=by simp; omega
  rw [this]; simp
theorem named_good {s:ByteArray} (h0:0 < s.size) (h1:s.size ≤ 12):Lx.named s.toList = (Lx.isLet s[0] && (decide (Lx.span Lx.isWrd s.data.toList = s.size) && !Lx.kept s.toList)):=by
 rw [toList_eq]
 have e:s.data.toList.length = s.size:=rfl
 have hs:=span_all Lx.isWrd s.data.toList
 rw [e] at hs
 have hh:(s.data.toList.head?.map Lx.isLet).getD false = Lx.isLet s[0]:=by rw [Lx.byte_cons s h0]; rfl
 unfold Lx.named
 rw [hs,hh,e,decide_eq_true h0,decide_eq_true h1]
 simp only [Bool.true_and]
 cases Lx.isLet s[0] <;> cases s.data.toList.all Lx.isWrd <;> simp
theorem isEmpty_of {s:ByteArray} (h:0 < s.size):s.toList.isEmpty = false:=by
 rw [toList_eq,Lx.byte_cons s h]; rfl
theorem named_any (s:ByteArray) (w:World) (hs:s.size ≤ maxLen) :
  Calls Tryz.prog 83 #[.string s] w fun e w' => e = .returned (.bool (Lx.named s.toList)) ∧ w' = w:=by
 have hs':=hs
 unfold maxLen at hs'
 by_cases h0:s.size = 0
 ·have HB:Hid (Lx.named s.toList = false):=named_bad (.inl h0)
  have he:s.toList.isEmpty = true:=by
   rw [toList_eq]
   have:s.data.toList.length = 0:=h0
   rw [List.length_eq_zero_iff.1 this]; rfl
  clear h0
  go_enter Tryz.func83,Tryz.ntmps83
  go_wp2
  go_ret
  exact ⟨ret_bool HB.out.symm,rfl⟩
 ·have h0':0 < s.size:=by omega
  have he:s.toList.isEmpty = false:=isEmpty_of h0'
  by_cases h12:12 < s.size
  ·have HB:Hid (Lx.named s.toList = false):=named_bad (.inr h12)
   go_enter Tryz.func83,Tryz.ntmps83
   go_wp2
   go_ret
   exact ⟨ret_bool HB.out.symm,rfl⟩
  ·have HG:Hid (Lx.named s.toList = (Lx.isLet s[0] && (decide (Lx.span Lx.isWrd s.data.toList = s.size) && !Lx.kept s.toList))):=named_good h0' (by omega)
   cases hl:Lx.isLet s[0]
   ·rw [hl] at HG
    go_enter Tryz.func83,Tryz.ntmps83
    go_wp2_with fail
    refine (isLetter_any _ _).mono ?_
    rintro e w1 ⟨rfl,rfl⟩
    go_wp2
    go_ret
    exact ⟨ret_bool (by rw [HG.out]; rfl),rfl⟩
   ·rw [hl] at HG
    by_cases hsp:Lx.span Lx.isWrd s.data.toList = s.size
    ·rw [decide_eq_true hsp] at HG
     have e1:(((Lx.span Lx.isWrd s.data.toList:Nat):Int) == (s.size:Int)) = true:=by simp; omega
     clear hsp
     go_enter Tryz.func83,Tryz.ntmps83
     go_wp2_with fail
     refine (isLetter_any _ _).mono ?_
     rintro e w1 ⟨rfl,rfl⟩
     go_wp2_with fail
     refine (run_word s _ hs).mono ?_
     rintro e w1 ⟨rfl,rfl⟩
     go_wp2_with fail
     refine (isKept_any s _).mono ?_
     rintro e w1 ⟨rfl,rfl⟩
     go_wp2
     go_ret
     exact ⟨ret_bool (by rw [HG.out]; simp),rfl⟩
    ·rw [decide_eq_false hsp] at HG
     have e1:(((Lx.span Lx.isWrd s.data.toList:Nat):Int) == (s.size:Int)) = false:=by simp; omega
     clear hsp
     go_enter Tryz.func83,Tryz.ntmps83
     go_wp2_with fail
     refine (isLetter_any _ _).mono ?_
     rintro e w1 ⟨rfl,rfl⟩
     go_wp2_with fail
     refine (run_word s _ hs).mono ?_
     rintro e w1 ⟨rfl,rfl⟩
     go_wp2
     go_ret
     exact ⟨ret_bool (by rw [HG.out]; rfl),rfl⟩
end Go.Proofs.YtbioaoangfiijaaGreatDoor
