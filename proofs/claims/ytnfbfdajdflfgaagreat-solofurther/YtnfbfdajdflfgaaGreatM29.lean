/- The walk of reckon: what wants no memory but the stack. -/
import Derived.Test.YtnfbfdajdflfgaaGreatM4
import Derived.Maps.RangeWalk
namespace Go.Proofs.YtnfbfdajdflfgaaGreat
open Go.RowKit

theorem popPlain_len {st st' : List Int} {t : Int} (h : Vf.popPlain st = .ok (t, st')) (hl : st.length ≤ 300) : st'.length ≤ 300 ∧ I64 t := by
  cases st with
  | nil => cases h
  | cons y st2 =>
    unfold Vf.popPlain Vf.pop Vf.andThen at h
    simp only at h
    split at h
    · rename_i hp
      cases h
      unfold Vf.plain at hp
      simp at hp hl
      exact ⟨by omega, by rcases hp with rfl | rfl <;> decide⟩
    · cases h

set_option maxRecDepth 100000 in
set_option maxHeartbeats 2000000 in
theorem reck1 (c : FC) (F B : Nat) (top : Option Addr) (st : List Int) (f : Vf.Fl) (n : Int) (row : Value) (a nn : Int) (w : World) (h : Hid (FlIn c w F top st f n row)) (hE : Hid (Env c B F w)) (hl : st.length ≤ 300) (r : Except Int (List Int)) (hr : Hid (r = Vf.put 1 st)) :
    Calls Tryz.prog 63 #[.pointer (some ⟨F, 0, none⟩), .agg #[.int .i64 1, .int .i64 a, .int .i64 nn]] w fun e w' => SEnds c F f n row r w e w' := by
  have hlt := hE.out.lt
  have HF0 := hide (h.out.alloc (insO 1 a nn))
  have HG0 : Hid (w.grownBy (w.alloc (insO 1 a nn)) (some F)) := grown_new _
  go_enter Tryz.func63, Tryz.ntmps63
  go_wp2_with fail
  refine (put_any c F top st f n row 1 _ HF0 (by omega) r hr).mono ?_
  rintro e w9 hS
  have HG9 : Hid (w.grownBy w9 (some F)) := grown_tr HG0.out hS.grown
  cases r with
  | error er =>
    obtain rfl := hS.no er rfl
    clear hS
    go_wp2
    exact ⟨rfl, SEnds.bad HG9.out rfl⟩
  | ok st9 =>
    obtain ⟨rfl, top9, hF9⟩ := hS.yes st9 rfl
    have HF9 := hide hF9
    clear hS hF9
    go_wp2
    go_end0
    exact SEnds.good HG9.out rfl HF9.out

set_option maxRecDepth 100000 in
set_option maxHeartbeats 2000000 in
theorem reck2 (c : FC) (F B : Nat) (top : Option Addr) (st : List Int) (f : Vf.Fl) (n : Int) (row : Value) (a nn : Int) (w : World) (h : Hid (FlIn c w F top st f n row)) (hE : Hid (Env c B F w)) (hl : st.length ≤ 300) (r : Except Int (List Int)) (hr : Hid (r = Vf.put 2 st)) :
    Calls Tryz.prog 63 #[.pointer (some ⟨F, 0, none⟩), .agg #[.int .i64 2, .int .i64 a, .int .i64 nn]] w fun e w' => SEnds c F f n row r w e w' := by
  have hlt := hE.out.lt
  have HF0 := hide (h.out.alloc (insO 2 a nn))
  have HG0 : Hid (w.grownBy (w.alloc (insO 2 a nn)) (some F)) := grown_new _
  go_enter Tryz.func63, Tryz.ntmps63
  go_wp2_with fail
  refine (put_any c F top st f n row 2 _ HF0 (by omega) r hr).mono ?_
  rintro e w9 hS
  have HG9 : Hid (w.grownBy w9 (some F)) := grown_tr HG0.out hS.grown
  cases r with
  | error er =>
    obtain rfl := hS.no er rfl
    clear hS
    go_wp2
    exact ⟨rfl, SEnds.bad HG9.out rfl⟩
  | ok st9 =>
    obtain ⟨rfl, top9, hF9⟩ := hS.yes st9 rfl
    have HF9 := hide hF9
    clear hS hF9
    go_wp2
    go_end0
    exact SEnds.good HG9.out rfl HF9.out

set_option maxRecDepth 100000 in
set_option maxHeartbeats 2000000 in
theorem reck6 (c : FC) (F B : Nat) (top : Option Addr) (st : List Int) (f : Vf.Fl) (n : Int) (row : Value) (a nn : Int) (w : World) (h : Hid (FlIn c w F top st f n row)) (hE : Hid (Env c B F w)) (hl : st.length ≤ 300) (r : Except Int (List Int)) (hr : Hid (r = Vf.turn 1 [1] st)) :
    Calls Tryz.prog 63 #[.pointer (some ⟨F, 0, none⟩), .agg #[.int .i64 6, .int .i64 a, .int .i64 nn]] w fun e w' => SEnds c F f n row r w e w' := by
  have hlt := hE.out.lt
  have HF0 := hide (h.out.alloc (insO 6 a nn))
  have HG0 : Hid (w.grownBy (w.alloc (insO 6 a nn)) (some F)) := grown_new _
  have HF1 : Hid (FlIn c ((w.alloc (insO 6 a nn)).alloc (.cells #[.int .i64 1] 3)) F top st f n row) := HF0.out.alloc _
  have HG1 : Hid (w.grownBy ((w.alloc (insO 6 a nn)).alloc (.cells #[.int .i64 1] 3)) (some F)) := grown_alloc (grown_new _) _
  go_enter Tryz.func63, Tryz.ntmps63
  go_wp2_with fail
  refine (turn1_any c F (w.heap.size + 1) top st f n row 1 1 _ HF1 (by omega) (hide (by decide)) (by have := heap_alloc_new (w.alloc (insO 6 a nn)) (.cells #[.int .i64 1] 3); simpa using this) (by omega) r hr).mono ?_
  rintro e w9 hS
  have HG9 : Hid (w.grownBy w9 (some F)) := grown_tr HG1.out hS.grown
  cases r with
  | error er =>
    obtain rfl := hS.no er rfl
    clear hS
    go_wp2
    exact ⟨rfl, SEnds.bad HG9.out rfl⟩
  | ok st9 =>
    obtain ⟨rfl, top9, hF9⟩ := hS.yes st9 rfl
    have HF9 := hide hF9
    clear hS hF9
    go_wp2
    go_end0
    exact SEnds.good HG9.out rfl HF9.out

set_option maxRecDepth 100000 in
set_option maxHeartbeats 2000000 in
theorem reck7 (c : FC) (F B : Nat) (top : Option Addr) (st : List Int) (f : Vf.Fl) (n : Int) (row : Value) (a nn : Int) (w : World) (h : Hid (FlIn c w F top st f n row)) (hE : Hid (Env c B F w)) (hl : st.length ≤ 300) (r : Except Int (List Int)) (hr : Hid (r = Vf.turn 2 [2] st)) :
    Calls Tryz.prog 63 #[.pointer (some ⟨F, 0, none⟩), .agg #[.int .i64 7, .int .i64 a, .int .i64 nn]] w fun e w' => SEnds c F f n row r w e w' := by
  have hlt := hE.out.lt
  have HF0 := hide (h.out.alloc (insO 7 a nn))
  have HG0 : Hid (w.grownBy (w.alloc (insO 7 a nn)) (some F)) := grown_new _
  have HF1 : Hid (FlIn c ((w.alloc (insO 7 a nn)).alloc (.cells #[.int .i64 2] 3)) F top st f n row) := HF0.out.alloc _
  have HG1 : Hid (w.grownBy ((w.alloc (insO 7 a nn)).alloc (.cells #[.int .i64 2] 3)) (some F)) := grown_alloc (grown_new _) _
  go_enter Tryz.func63, Tryz.ntmps63
  go_wp2_with fail
  refine (turn1_any c F (w.heap.size + 1) top st f n row 2 2 _ HF1 (by omega) (hide (by decide)) (by have := heap_alloc_new (w.alloc (insO 7 a nn)) (.cells #[.int .i64 2] 3); simpa using this) (by omega) r hr).mono ?_
  rintro e w9 hS
  have HG9 : Hid (w.grownBy w9 (some F)) := grown_tr HG1.out hS.grown
  cases r with
  | error er =>
    obtain rfl := hS.no er rfl
    clear hS
    go_wp2
    exact ⟨rfl, SEnds.bad HG9.out rfl⟩
  | ok st9 =>
    obtain ⟨rfl, top9, hF9⟩ := hS.yes st9 rfl
    have HF9 := hide hF9
    clear hS hF9
    go_wp2
    go_end0
    exact SEnds.good HG9.out rfl HF9.out

set_option maxRecDepth 100000 in
set_option maxHeartbeats 2000000 in
theorem reck22 (c : FC) (F B : Nat) (top : Option Addr) (st : List Int) (f : Vf.Fl) (n : Int) (row : Value) (a nn : Int) (w : World) (h : Hid (FlIn c w F top st f n row)) (hE : Hid (Env c B F w)) (hl : st.length ≤ 300) (r : Except Int (List Int)) (hr : Hid (r = Vf.takeR [2] st)) :
    Calls Tryz.prog 63 #[.pointer (some ⟨F, 0, none⟩), .agg #[.int .i64 22, .int .i64 a, .int .i64 nn]] w fun e w' => SEnds c F f n row r w e w' := by
  have hlt := hE.out.lt
  have HF0 := hide (h.out.alloc (insO 22 a nn))
  have HG0 : Hid (w.grownBy (w.alloc (insO 22 a nn)) (some F)) := grown_new _
  have HF1 : Hid (FlIn c ((w.alloc (insO 22 a nn)).alloc (.cells #[.int .i64 2] 3)) F top st f n row) := HF0.out.alloc _
  have HG1 : Hid (w.grownBy ((w.alloc (insO 22 a nn)).alloc (.cells #[.int .i64 2] 3)) (some F)) := grown_alloc (grown_new _) _
  go_enter Tryz.func63, Tryz.ntmps63
  go_wp2_with fail
  refine (take1_any c F (w.heap.size + 1) top st f n row 2 _ HF1 (by omega) (hide (by decide)) (by have := heap_alloc_new (w.alloc (insO 22 a nn)) (.cells #[.int .i64 2] 3); simpa using this) (by omega) r hr).mono ?_
  rintro e w9 hS
  have HG9 : Hid (w.grownBy w9 (some F)) := grown_tr HG1.out hS.grown
  cases r with
  | error er =>
    obtain rfl := hS.no er rfl
    clear hS
    go_wp2
    exact ⟨rfl, SEnds.bad HG9.out rfl⟩
  | ok st9 =>
    obtain ⟨rfl, top9, hF9⟩ := hS.yes st9 rfl
    have HF9 := hide hF9
    clear hS hF9
    go_wp2
    go_end0
    exact SEnds.good HG9.out rfl HF9.out

set_option maxRecDepth 100000 in
set_option maxHeartbeats 2000000 in
theorem reck5 (c : FC) (F B : Nat) (top : Option Addr) (st : List Int) (f : Vf.Fl) (n : Int) (row : Value) (a nn : Int) (w : World) (h : Hid (FlIn c w F top st f n row)) (hE : Hid (Env c B F w)) (hl : st.length ≤ 300) (r : Except Int (List Int)) (hr : Hid (r = Vf.andThen (Vf.pop st) fun p => .ok p.2)) :
    Calls Tryz.prog 63 #[.pointer (some ⟨F, 0, none⟩), .agg #[.int .i64 5, .int .i64 a, .int .i64 nn]] w fun e w' => SEnds c F f n row r w e w' := by
  have hlt := hE.out.lt
  have HF0 := hide (h.out.alloc (insO 5 a nn))
  have HG0 : Hid (w.grownBy (w.alloc (insO 5 a nn)) (some F)) := grown_new _
  go_enter Tryz.func63, Tryz.ntmps63
  go_wp2_with fail
  refine (takeOne_any c F top st f n row _ HF0 (by omega) (Vf.pop st) (hide rfl)).mono ?_
  rintro e w1 hV
  have HG1 : Hid (w.grownBy w1 (some F)) := grown_tr HG0.out hV.grown
  cases st with
  | nil =>
    obtain rfl := hV.no 12 rfl
    have HE : Hid (r = .error 12) := hr.out
    clear hV
    go_wp2
    exact ⟨rfl, SEnds.bad HG1.out HE.out⟩
  | cons t st1 =>
    obtain ⟨rfl, top1, hF1⟩ := hV.yes t st1 rfl
    have HF1 := hide hF1
    have HE : Hid (r = .ok st1) := hr.out
    clear hV hF1
    go_wp2
    go_end0
    exact SEnds.good HG1.out HE.out HF1.out

set_option maxRecDepth 100000 in
set_option maxHeartbeats 2000000 in
theorem reck28 (c : FC) (F B : Nat) (top : Option Addr) (st : List Int) (f : Vf.Fl) (n : Int) (row : Value) (a nn : Int) (w : World) (h : Hid (FlIn c w F top st f n row)) (hE : Hid (Env c B F w)) (hl : st.length ≤ 300) (r : Except Int (List Int)) (hr : Hid (r = Vf.andThen (Vf.popPlain st) fun p => .ok p.2)) :
    Calls Tryz.prog 63 #[.pointer (some ⟨F, 0, none⟩), .agg #[.int .i64 28, .int .i64 a, .int .i64 nn]] w fun e w' => SEnds c F f n row r w e w' := by
  have hlt := hE.out.lt
  have HF0 := hide (h.out.alloc (insO 28 a nn))
  have HG0 : Hid (w.grownBy (w.alloc (insO 28 a nn)) (some F)) := grown_new _
  obtain ⟨r1, hr1⟩ : ∃ r1, r1 = Vf.popPlain st := ⟨_, rfl⟩
  have HR1 := hide hr1
  have HR : Hid (r = Vf.andThen r1 fun p => .ok p.2) := by unfold Hid; rw [hr.out, hr1]
  have HL : Hid (∀ t st', r1 = .ok (t, st') → st'.length ≤ 300 ∧ I64 t) := fun t st' e => by
    rw [hr1] at e
    exact popPlain_len e hl
  clear hr hr1
  go_enter Tryz.func63, Tryz.ntmps63
  go_wp2_with fail
  refine (takePlain_any c F top st f n row _ HF0 (by omega) r1 HR1).mono ?_
  rintro e w1 hV
  have HG1 : Hid (w.grownBy w1 (some F)) := grown_tr HG0.out hV.grown
  cases r1 with
  | error er =>
    obtain rfl := hV.no er rfl
    have HE : Hid (r = .error er) := HR.out
    clear hV
    go_wp2
    exact ⟨rfl, SEnds.bad HG1.out HE.out⟩
  | ok gs =>
    obtain ⟨t, st1⟩ := gs
    obtain ⟨rfl, top1, hF1⟩ := hV.yes t st1 rfl
    have HF1 := hide hF1
    have hl1 := (HL.out t st1 rfl).1
    have H64 := hide (HL.out t st1 rfl).2
    clear hV hF1
    have HE : Hid (r = .ok st1) := HR.out
    clear HR hl1 H64 HL
    go_wp2
    go_end0
    exact SEnds.good HG1.out HE.out HF1.out

set_option maxRecDepth 100000 in
set_option maxHeartbeats 2000000 in
theorem reck13 (c : FC) (F B : Nat) (top : Option Addr) (st : List Int) (f : Vf.Fl) (n : Int) (row : Value) (a nn : Int) (w : World) (h : Hid (FlIn c w F top st f n row)) (hE : Hid (Env c B F w)) (hl : st.length ≤ 300) (r : Except Int (List Int)) (hr : Hid (r = Vf.andThen (Vf.popPlain st) fun p => Vf.turn 2 [p.1] p.2)) :
    Calls Tryz.prog 63 #[.pointer (some ⟨F, 0, none⟩), .agg #[.int .i64 13, .int .i64 a, .int .i64 nn]] w fun e w' => SEnds c F f n row r w e w' := by
  have hlt := hE.out.lt
  have HF0 := hide (h.out.alloc (insO 13 a nn))
  have HG0 : Hid (w.grownBy (w.alloc (insO 13 a nn)) (some F)) := grown_new _
  obtain ⟨r1, hr1⟩ : ∃ r1, r1 = Vf.popPlain st := ⟨_, rfl⟩
  have HR1 := hide hr1
  have HR : Hid (r = Vf.andThen r1 fun p => Vf.turn 2 [p.1] p.2) := by unfold Hid; rw [hr.out, hr1]
  have HL : Hid (∀ t st', r1 = .ok (t, st') → st'.length ≤ 300 ∧ I64 t) := fun t st' e => by
    rw [hr1] at e
    exact popPlain_len e hl
  clear hr hr1
  go_enter Tryz.func63, Tryz.ntmps63
  go_wp2_with fail
  refine (takePlain_any c F top st f n row _ HF0 (by omega) r1 HR1).mono ?_
  rintro e w1 hV
  have HG1 : Hid (w.grownBy w1 (some F)) := grown_tr HG0.out hV.grown
  cases r1 with
  | error er =>
    obtain rfl := hV.no er rfl
    have HE : Hid (r = .error er) := HR.out
    clear hV
    go_wp2
    exact ⟨rfl, SEnds.bad HG1.out HE.out⟩
  | ok gs =>
    obtain ⟨t, st1⟩ := gs
    obtain ⟨rfl, top1, hF1⟩ := hV.yes t st1 rfl
    have HF1 := hide hF1
    have hl1 := (HL.out t st1 rfl).1
    have H64 := hide (HL.out t st1 rfl).2
    clear hV hF1
    have HE : Hid (r = Vf.turn 2 [t] st1) := HR.out
    have HF2 : Hid (FlIn c (w1.alloc (.cells #[.int .i64 t] 3)) F top1 st1 f n row) := HF1.out.alloc _
    have HG2 : Hid (w.grownBy (w1.alloc (.cells #[.int .i64 t] 3)) (some F)) := grown_alloc HG1.out _
    have hz1 := HG1.out.size
    clear HR HL
    go_wp2_with fail
    refine (turn1_any c F w1.heap.size top1 st1 f n row 2 t _ HF2 (by omega) H64 (heap_alloc_new w1 _) (by omega) r HE).mono ?_
    rintro e w9 hS
    have HG9 : Hid (w.grownBy w9 (some F)) := grown_tr HG2.out hS.grown
    cases r with
    | error er =>
      obtain rfl := hS.no er rfl
      clear hS
      go_wp2
      exact ⟨rfl, SEnds.bad HG9.out rfl⟩
    | ok st9 =>
      obtain ⟨rfl, top9, hF9⟩ := hS.yes st9 rfl
      have HF9 := hide hF9
      clear hS hF9
      go_wp2
      go_end0
      exact SEnds.good HG9.out rfl HF9.out

set_option maxRecDepth 100000 in
set_option maxHeartbeats 2000000 in
theorem reck14 (c : FC) (F B : Nat) (top : Option Addr) (st : List Int) (f : Vf.Fl) (n : Int) (row : Value) (a nn : Int) (w : World) (h : Hid (FlIn c w F top st f n row)) (hE : Hid (Env c B F w)) (hl : st.length ≤ 300) (r : Except Int (List Int)) (hr : Hid (r = Vf.andThen (Vf.popPlain st) fun p => Vf.turn 2 [p.1] p.2)) :
    Calls Tryz.prog 63 #[.pointer (some ⟨F, 0, none⟩), .agg #[.int .i64 14, .int .i64 a, .int .i64 nn]] w fun e w' => SEnds c F f n row r w e w' := by
  have hlt := hE.out.lt
  have HF0 := hide (h.out.alloc (insO 14 a nn))
  have HG0 : Hid (w.grownBy (w.alloc (insO 14 a nn)) (some F)) := grown_new _
  obtain ⟨r1, hr1⟩ : ∃ r1, r1 = Vf.popPlain st := ⟨_, rfl⟩
  have HR1 := hide hr1
  have HR : Hid (r = Vf.andThen r1 fun p => Vf.turn 2 [p.1] p.2) := by unfold Hid; rw [hr.out, hr1]
  have HL : Hid (∀ t st', r1 = .ok (t, st') → st'.length ≤ 300 ∧ I64 t) := fun t st' e => by
    rw [hr1] at e
    exact popPlain_len e hl
  clear hr hr1
  go_enter Tryz.func63, Tryz.ntmps63
  go_wp2_with fail
  refine (takePlain_any c F top st f n row _ HF0 (by omega) r1 HR1).mono ?_
  rintro e w1 hV
  have HG1 : Hid (w.grownBy w1 (some F)) := grown_tr HG0.out hV.grown
  cases r1 with
  | error er =>
    obtain rfl := hV.no er rfl
    have HE : Hid (r = .error er) := HR.out
    clear hV
    go_wp2
    exact ⟨rfl, SEnds.bad HG1.out HE.out⟩
  | ok gs =>
    obtain ⟨t, st1⟩ := gs
    obtain ⟨rfl, top1, hF1⟩ := hV.yes t st1 rfl
    have HF1 := hide hF1
    have hl1 := (HL.out t st1 rfl).1
    have H64 := hide (HL.out t st1 rfl).2
    clear hV hF1
    have HE : Hid (r = Vf.turn 2 [t] st1) := HR.out
    have HF2 : Hid (FlIn c (w1.alloc (.cells #[.int .i64 t] 3)) F top1 st1 f n row) := HF1.out.alloc _
    have HG2 : Hid (w.grownBy (w1.alloc (.cells #[.int .i64 t] 3)) (some F)) := grown_alloc HG1.out _
    have hz1 := HG1.out.size
    clear HR HL
    go_wp2_with fail
    refine (turn1_any c F w1.heap.size top1 st1 f n row 2 t _ HF2 (by omega) H64 (heap_alloc_new w1 _) (by omega) r HE).mono ?_
    rintro e w9 hS
    have HG9 : Hid (w.grownBy w9 (some F)) := grown_tr HG2.out hS.grown
    cases r with
    | error er =>
      obtain rfl := hS.no er rfl
      clear hS
      go_wp2
      exact ⟨rfl, SEnds.bad HG9.out rfl⟩
    | ok st9 =>
      obtain ⟨rfl, top9, hF9⟩ := hS.yes st9 rfl
      have HF9 := hide hF9
      clear hS hF9
      go_wp2
      go_end0
      exact SEnds.good HG9.out rfl HF9.out

end Go.Proofs.YtnfbfdajdflfgaaGreat

/- The walk of reckon: of two types. -/
namespace Go.Proofs.YtnfbfdajdflfgaaGreat
open Go.RowKit

set_option maxRecDepth 100000 in
set_option maxHeartbeats 2000000 in
theorem reck8 (c : FC) (F B : Nat) (top : Option Addr) (st : List Int) (f : Vf.Fl) (n : Int) (row : Value) (a nn : Int) (w : World) (h : Hid (FlIn c w F top st f n row)) (hE : Hid (Env c B F w)) (hl : st.length ≤ 300) (r : Except Int (List Int)) (hr : Hid (r = Vf.turn 1 [1, 1] st)) :
    Calls Tryz.prog 63 #[.pointer (some ⟨F, 0, none⟩), .agg #[.int .i64 8, .int .i64 a, .int .i64 nn]] w fun e w' => SEnds c F f n row r w e w' := by
  have hlt := hE.out.lt
  have HF0 := hide (h.out.alloc (insO 8 a nn))
  have HG0 : Hid (w.grownBy (w.alloc (insO 8 a nn)) (some F)) := grown_new _
  have HF1 : Hid (FlIn c ((w.alloc (insO 8 a nn)).alloc (.cells #[.int .i64 1, .int .i64 1] 3)) F top st f n row) := HF0.out.alloc _
  have HG1 : Hid (w.grownBy ((w.alloc (insO 8 a nn)).alloc (.cells #[.int .i64 1, .int .i64 1] 3)) (some F)) := grown_alloc (grown_new _) _
  go_enter Tryz.func63, Tryz.ntmps63
  go_wp2_with fail
  refine (turn2_any c F (w.heap.size + 1) top st f n row 1 1 1 _ HF1 (by omega) (hide (by decide)) (by have := heap_alloc_new (w.alloc (insO 8 a nn)) (.cells #[.int .i64 1, .int .i64 1] 3); simpa using this) (by omega) r hr).mono ?_
  rintro e w9 hS
  have HG9 : Hid (w.grownBy w9 (some F)) := grown_tr HG1.out hS.grown
  cases r with
  | error er =>
    obtain rfl := hS.no er rfl
    clear hS
    go_wp2
    exact ⟨rfl, SEnds.bad HG9.out rfl⟩
  | ok st9 =>
    obtain ⟨rfl, top9, hF9⟩ := hS.yes st9 rfl
    have HF9 := hide hF9
    clear hS hF9
    go_wp2
    go_end0
    exact SEnds.good HG9.out rfl HF9.out

set_option maxRecDepth 100000 in
set_option maxHeartbeats 2000000 in
theorem reck9 (c : FC) (F B : Nat) (top : Option Addr) (st : List Int) (f : Vf.Fl) (n : Int) (row : Value) (a nn : Int) (w : World) (h : Hid (FlIn c w F top st f n row)) (hE : Hid (Env c B F w)) (hl : st.length ≤ 300) (r : Except Int (List Int)) (hr : Hid (r = Vf.turn 1 [1, 1] st)) :
    Calls Tryz.prog 63 #[.pointer (some ⟨F, 0, none⟩), .agg #[.int .i64 9, .int .i64 a, .int .i64 nn]] w fun e w' => SEnds c F f n row r w e w' := by
  have hlt := hE.out.lt
  have HF0 := hide (h.out.alloc (insO 9 a nn))
  have HG0 : Hid (w.grownBy (w.alloc (insO 9 a nn)) (some F)) := grown_new _
  have HF1 : Hid (FlIn c ((w.alloc (insO 9 a nn)).alloc (.cells #[.int .i64 1, .int .i64 1] 3)) F top st f n row) := HF0.out.alloc _
  have HG1 : Hid (w.grownBy ((w.alloc (insO 9 a nn)).alloc (.cells #[.int .i64 1, .int .i64 1] 3)) (some F)) := grown_alloc (grown_new _) _
  go_enter Tryz.func63, Tryz.ntmps63
  go_wp2_with fail
  refine (turn2_any c F (w.heap.size + 1) top st f n row 1 1 1 _ HF1 (by omega) (hide (by decide)) (by have := heap_alloc_new (w.alloc (insO 9 a nn)) (.cells #[.int .i64 1, .int .i64 1] 3); simpa using this) (by omega) r hr).mono ?_
  rintro e w9 hS
  have HG9 : Hid (w.grownBy w9 (some F)) := grown_tr HG1.out hS.grown
  cases r with
  | error er =>
    obtain rfl := hS.no er rfl
    clear hS
    go_wp2
    exact ⟨rfl, SEnds.bad HG9.out rfl⟩
  | ok st9 =>
    obtain ⟨rfl, top9, hF9⟩ := hS.yes st9 rfl
    have HF9 := hide hF9
    clear hS hF9
    go_wp2
    go_end0
    exact SEnds.good HG9.out rfl HF9.out

set_option maxRecDepth 100000 in
set_option maxHeartbeats 2000000 in
theorem reck10 (c : FC) (F B : Nat) (top : Option Addr) (st : List Int) (f : Vf.Fl) (n : Int) (row : Value) (a nn : Int) (w : World) (h : Hid (FlIn c w F top st f n row)) (hE : Hid (Env c B F w)) (hl : st.length ≤ 300) (r : Except Int (List Int)) (hr : Hid (r = Vf.turn 1 [1, 1] st)) :
    Calls Tryz.prog 63 #[.pointer (some ⟨F, 0, none⟩), .agg #[.int .i64 10, .int .i64 a, .int .i64 nn]] w fun e w' => SEnds c F f n row r w e w' := by
  have hlt := hE.out.lt
  have HF0 := hide (h.out.alloc (insO 10 a nn))
  have HG0 : Hid (w.grownBy (w.alloc (insO 10 a nn)) (some F)) := grown_new _
  have HF1 : Hid (FlIn c ((w.alloc (insO 10 a nn)).alloc (.cells #[.int .i64 1, .int .i64 1] 3)) F top st f n row) := HF0.out.alloc _
  have HG1 : Hid (w.grownBy ((w.alloc (insO 10 a nn)).alloc (.cells #[.int .i64 1, .int .i64 1] 3)) (some F)) := grown_alloc (grown_new _) _
  go_enter Tryz.func63, Tryz.ntmps63
  go_wp2_with fail
  refine (turn2_any c F (w.heap.size + 1) top st f n row 1 1 1 _ HF1 (by omega) (hide (by decide)) (by have := heap_alloc_new (w.alloc (insO 10 a nn)) (.cells #[.int .i64 1, .int .i64 1] 3); simpa using this) (by omega) r hr).mono ?_
  rintro e w9 hS
  have HG9 : Hid (w.grownBy w9 (some F)) := grown_tr HG1.out hS.grown
  cases r with
  | error er =>
    obtain rfl := hS.no er rfl
    clear hS
    go_wp2
    exact ⟨rfl, SEnds.bad HG9.out rfl⟩
  | ok st9 =>
    obtain ⟨rfl, top9, hF9⟩ := hS.yes st9 rfl
    have HF9 := hide hF9
    clear hS hF9
    go_wp2
    go_end0
    exact SEnds.good HG9.out rfl HF9.out

set_option maxRecDepth 100000 in
set_option maxHeartbeats 2000000 in
theorem reck11 (c : FC) (F B : Nat) (top : Option Addr) (st : List Int) (f : Vf.Fl) (n : Int) (row : Value) (a nn : Int) (w : World) (h : Hid (FlIn c w F top st f n row)) (hE : Hid (Env c B F w)) (hl : st.length ≤ 300) (r : Except Int (List Int)) (hr : Hid (r = Vf.turn 1 [1, 1] st)) :
    Calls Tryz.prog 63 #[.pointer (some ⟨F, 0, none⟩), .agg #[.int .i64 11, .int .i64 a, .int .i64 nn]] w fun e w' => SEnds c F f n row r w e w' := by
  have hlt := hE.out.lt
  have HF0 := hide (h.out.alloc (insO 11 a nn))
  have HG0 : Hid (w.grownBy (w.alloc (insO 11 a nn)) (some F)) := grown_new _
  have HF1 : Hid (FlIn c ((w.alloc (insO 11 a nn)).alloc (.cells #[.int .i64 1, .int .i64 1] 3)) F top st f n row) := HF0.out.alloc _
  have HG1 : Hid (w.grownBy ((w.alloc (insO 11 a nn)).alloc (.cells #[.int .i64 1, .int .i64 1] 3)) (some F)) := grown_alloc (grown_new _) _
  go_enter Tryz.func63, Tryz.ntmps63
  go_wp2_with fail
  refine (turn2_any c F (w.heap.size + 1) top st f n row 1 1 1 _ HF1 (by omega) (hide (by decide)) (by have := heap_alloc_new (w.alloc (insO 11 a nn)) (.cells #[.int .i64 1, .int .i64 1] 3); simpa using this) (by omega) r hr).mono ?_
  rintro e w9 hS
  have HG9 : Hid (w.grownBy w9 (some F)) := grown_tr HG1.out hS.grown
  cases r with
  | error er =>
    obtain rfl := hS.no er rfl
    clear hS
    go_wp2
    exact ⟨rfl, SEnds.bad HG9.out rfl⟩
  | ok st9 =>
    obtain ⟨rfl, top9, hF9⟩ := hS.yes st9 rfl
    have HF9 := hide hF9
    clear hS hF9
    go_wp2
    go_end0
    exact SEnds.good HG9.out rfl HF9.out

set_option maxRecDepth 100000 in
set_option maxHeartbeats 2000000 in
theorem reck12 (c : FC) (F B : Nat) (top : Option Addr) (st : List Int) (f : Vf.Fl) (n : Int) (row : Value) (a nn : Int) (w : World) (h : Hid (FlIn c w F top st f n row)) (hE : Hid (Env c B F w)) (hl : st.length ≤ 300) (r : Except Int (List Int)) (hr : Hid (r = Vf.turn 1 [1, 1] st)) :
    Calls Tryz.prog 63 #[.pointer (some ⟨F, 0, none⟩), .agg #[.int .i64 12, .int .i64 a, .int .i64 nn]] w fun e w' => SEnds c F f n row r w e w' := by
  have hlt := hE.out.lt
  have HF0 := hide (h.out.alloc (insO 12 a nn))
  have HG0 : Hid (w.grownBy (w.alloc (insO 12 a nn)) (some F)) := grown_new _
  have HF1 : Hid (FlIn c ((w.alloc (insO 12 a nn)).alloc (.cells #[.int .i64 1, .int .i64 1] 3)) F top st f n row) := HF0.out.alloc _
  have HG1 : Hid (w.grownBy ((w.alloc (insO 12 a nn)).alloc (.cells #[.int .i64 1, .int .i64 1] 3)) (some F)) := grown_alloc (grown_new _) _
  go_enter Tryz.func63, Tryz.ntmps63
  go_wp2_with fail
  refine (turn2_any c F (w.heap.size + 1) top st f n row 1 1 1 _ HF1 (by omega) (hide (by decide)) (by have := heap_alloc_new (w.alloc (insO 12 a nn)) (.cells #[.int .i64 1, .int .i64 1] 3); simpa using this) (by omega) r hr).mono ?_
  rintro e w9 hS
  have HG9 : Hid (w.grownBy w9 (some F)) := grown_tr HG1.out hS.grown
  cases r with
  | error er =>
    obtain rfl := hS.no er rfl
    clear hS
    go_wp2
    exact ⟨rfl, SEnds.bad HG9.out rfl⟩
  | ok st9 =>
    obtain ⟨rfl, top9, hF9⟩ := hS.yes st9 rfl
    have HF9 := hide hF9
    clear hS hF9
    go_wp2
    go_end0
    exact SEnds.good HG9.out rfl HF9.out

set_option maxRecDepth 100000 in
set_option maxHeartbeats 2000000 in
theorem reck15 (c : FC) (F B : Nat) (top : Option Addr) (st : List Int) (f : Vf.Fl) (n : Int) (row : Value) (a nn : Int) (w : World) (h : Hid (FlIn c w F top st f n row)) (hE : Hid (Env c B F w)) (hl : st.length ≤ 300) (r : Except Int (List Int)) (hr : Hid (r = Vf.turn 2 [1, 1] st)) :
    Calls Tryz.prog 63 #[.pointer (some ⟨F, 0, none⟩), .agg #[.int .i64 15, .int .i64 a, .int .i64 nn]] w fun e w' => SEnds c F f n row r w e w' := by
  have hlt := hE.out.lt
  have HF0 := hide (h.out.alloc (insO 15 a nn))
  have HG0 : Hid (w.grownBy (w.alloc (insO 15 a nn)) (some F)) := grown_new _
  have HF1 : Hid (FlIn c ((w.alloc (insO 15 a nn)).alloc (.cells #[.int .i64 1, .int .i64 1] 3)) F top st f n row) := HF0.out.alloc _
  have HG1 : Hid (w.grownBy ((w.alloc (insO 15 a nn)).alloc (.cells #[.int .i64 1, .int .i64 1] 3)) (some F)) := grown_alloc (grown_new _) _
  go_enter Tryz.func63, Tryz.ntmps63
  go_wp2_with fail
  refine (turn2_any c F (w.heap.size + 1) top st f n row 2 1 1 _ HF1 (by omega) (hide (by decide)) (by have := heap_alloc_new (w.alloc (insO 15 a nn)) (.cells #[.int .i64 1, .int .i64 1] 3); simpa using this) (by omega) r hr).mono ?_
  rintro e w9 hS
  have HG9 : Hid (w.grownBy w9 (some F)) := grown_tr HG1.out hS.grown
  cases r with
  | error er =>
    obtain rfl := hS.no er rfl
    clear hS
    go_wp2
    exact ⟨rfl, SEnds.bad HG9.out rfl⟩
  | ok st9 =>
    obtain ⟨rfl, top9, hF9⟩ := hS.yes st9 rfl
    have HF9 := hide hF9
    clear hS hF9
    go_wp2
    go_end0
    exact SEnds.good HG9.out rfl HF9.out

set_option maxRecDepth 100000 in
set_option maxHeartbeats 2000000 in
theorem reck16 (c : FC) (F B : Nat) (top : Option Addr) (st : List Int) (f : Vf.Fl) (n : Int) (row : Value) (a nn : Int) (w : World) (h : Hid (FlIn c w F top st f n row)) (hE : Hid (Env c B F w)) (hl : st.length ≤ 300) (r : Except Int (List Int)) (hr : Hid (r = Vf.turn 2 [1, 1] st)) :
    Calls Tryz.prog 63 #[.pointer (some ⟨F, 0, none⟩), .agg #[.int .i64 16, .int .i64 a, .int .i64 nn]] w fun e w' => SEnds c F f n row r w e w' := by
  have hlt := hE.out.lt
  have HF0 := hide (h.out.alloc (insO 16 a nn))
  have HG0 : Hid (w.grownBy (w.alloc (insO 16 a nn)) (some F)) := grown_new _
  have HF1 : Hid (FlIn c ((w.alloc (insO 16 a nn)).alloc (.cells #[.int .i64 1, .int .i64 1] 3)) F top st f n row) := HF0.out.alloc _
  have HG1 : Hid (w.grownBy ((w.alloc (insO 16 a nn)).alloc (.cells #[.int .i64 1, .int .i64 1] 3)) (some F)) := grown_alloc (grown_new _) _
  go_enter Tryz.func63, Tryz.ntmps63
  go_wp2_with fail
  refine (turn2_any c F (w.heap.size + 1) top st f n row 2 1 1 _ HF1 (by omega) (hide (by decide)) (by have := heap_alloc_new (w.alloc (insO 16 a nn)) (.cells #[.int .i64 1, .int .i64 1] 3); simpa using this) (by omega) r hr).mono ?_
  rintro e w9 hS
  have HG9 : Hid (w.grownBy w9 (some F)) := grown_tr HG1.out hS.grown
  cases r with
  | error er =>
    obtain rfl := hS.no er rfl
    clear hS
    go_wp2
    exact ⟨rfl, SEnds.bad HG9.out rfl⟩
  | ok st9 =>
    obtain ⟨rfl, top9, hF9⟩ := hS.yes st9 rfl
    have HF9 := hide hF9
    clear hS hF9
    go_wp2
    go_end0
    exact SEnds.good HG9.out rfl HF9.out

set_option maxRecDepth 100000 in
set_option maxHeartbeats 2000000 in
theorem reck17 (c : FC) (F B : Nat) (top : Option Addr) (st : List Int) (f : Vf.Fl) (n : Int) (row : Value) (a nn : Int) (w : World) (h : Hid (FlIn c w F top st f n row)) (hE : Hid (Env c B F w)) (hl : st.length ≤ 300) (r : Except Int (List Int)) (hr : Hid (r = Vf.turn 2 [1, 1] st)) :
    Calls Tryz.prog 63 #[.pointer (some ⟨F, 0, none⟩), .agg #[.int .i64 17, .int .i64 a, .int .i64 nn]] w fun e w' => SEnds c F f n row r w e w' := by
  have hlt := hE.out.lt
  have HF0 := hide (h.out.alloc (insO 17 a nn))
  have HG0 : Hid (w.grownBy (w.alloc (insO 17 a nn)) (some F)) := grown_new _
  have HF1 : Hid (FlIn c ((w.alloc (insO 17 a nn)).alloc (.cells #[.int .i64 1, .int .i64 1] 3)) F top st f n row) := HF0.out.alloc _
  have HG1 : Hid (w.grownBy ((w.alloc (insO 17 a nn)).alloc (.cells #[.int .i64 1, .int .i64 1] 3)) (some F)) := grown_alloc (grown_new _) _
  go_enter Tryz.func63, Tryz.ntmps63
  go_wp2_with fail
  refine (turn2_any c F (w.heap.size + 1) top st f n row 2 1 1 _ HF1 (by omega) (hide (by decide)) (by have := heap_alloc_new (w.alloc (insO 17 a nn)) (.cells #[.int .i64 1, .int .i64 1] 3); simpa using this) (by omega) r hr).mono ?_
  rintro e w9 hS
  have HG9 : Hid (w.grownBy w9 (some F)) := grown_tr HG1.out hS.grown
  cases r with
  | error er =>
    obtain rfl := hS.no er rfl
    clear hS
    go_wp2
    exact ⟨rfl, SEnds.bad HG9.out rfl⟩
  | ok st9 =>
    obtain ⟨rfl, top9, hF9⟩ := hS.yes st9 rfl
    have HF9 := hide hF9
    clear hS hF9
    go_wp2
    go_end0
    exact SEnds.good HG9.out rfl HF9.out

set_option maxRecDepth 100000 in
set_option maxHeartbeats 2000000 in
theorem reck18 (c : FC) (F B : Nat) (top : Option Addr) (st : List Int) (f : Vf.Fl) (n : Int) (row : Value) (a nn : Int) (w : World) (h : Hid (FlIn c w F top st f n row)) (hE : Hid (Env c B F w)) (hl : st.length ≤ 300) (r : Except Int (List Int)) (hr : Hid (r = Vf.turn 2 [1, 1] st)) :
    Calls Tryz.prog 63 #[.pointer (some ⟨F, 0, none⟩), .agg #[.int .i64 18, .int .i64 a, .int .i64 nn]] w fun e w' => SEnds c F f n row r w e w' := by
  have hlt := hE.out.lt
  have HF0 := hide (h.out.alloc (insO 18 a nn))
  have HG0 : Hid (w.grownBy (w.alloc (insO 18 a nn)) (some F)) := grown_new _
  have HF1 : Hid (FlIn c ((w.alloc (insO 18 a nn)).alloc (.cells #[.int .i64 1, .int .i64 1] 3)) F top st f n row) := HF0.out.alloc _
  have HG1 : Hid (w.grownBy ((w.alloc (insO 18 a nn)).alloc (.cells #[.int .i64 1, .int .i64 1] 3)) (some F)) := grown_alloc (grown_new _) _
  go_enter Tryz.func63, Tryz.ntmps63
  go_wp2_with fail
  refine (turn2_any c F (w.heap.size + 1) top st f n row 2 1 1 _ HF1 (by omega) (hide (by decide)) (by have := heap_alloc_new (w.alloc (insO 18 a nn)) (.cells #[.int .i64 1, .int .i64 1] 3); simpa using this) (by omega) r hr).mono ?_
  rintro e w9 hS
  have HG9 : Hid (w.grownBy w9 (some F)) := grown_tr HG1.out hS.grown
  cases r with
  | error er =>
    obtain rfl := hS.no er rfl
    clear hS
    go_wp2
    exact ⟨rfl, SEnds.bad HG9.out rfl⟩
  | ok st9 =>
    obtain ⟨rfl, top9, hF9⟩ := hS.yes st9 rfl
    have HF9 := hide hF9
    clear hS hF9
    go_wp2
    go_end0
    exact SEnds.good HG9.out rfl HF9.out

set_option maxRecDepth 100000 in
set_option maxHeartbeats 2000000 in
theorem reck19 (c : FC) (F B : Nat) (top : Option Addr) (st : List Int) (f : Vf.Fl) (n : Int) (row : Value) (a nn : Int) (w : World) (h : Hid (FlIn c w F top st f n row)) (hE : Hid (Env c B F w)) (hl : st.length ≤ 300) (r : Except Int (List Int)) (hr : Hid (r = Vf.turn 2 [2, 2] st)) :
    Calls Tryz.prog 63 #[.pointer (some ⟨F, 0, none⟩), .agg #[.int .i64 19, .int .i64 a, .int .i64 nn]] w fun e w' => SEnds c F f n row r w e w' := by
  have hlt := hE.out.lt
  have HF0 := hide (h.out.alloc (insO 19 a nn))
  have HG0 : Hid (w.grownBy (w.alloc (insO 19 a nn)) (some F)) := grown_new _
  have HF1 : Hid (FlIn c ((w.alloc (insO 19 a nn)).alloc (.cells #[.int .i64 2, .int .i64 2] 3)) F top st f n row) := HF0.out.alloc _
  have HG1 : Hid (w.grownBy ((w.alloc (insO 19 a nn)).alloc (.cells #[.int .i64 2, .int .i64 2] 3)) (some F)) := grown_alloc (grown_new _) _
  go_enter Tryz.func63, Tryz.ntmps63
  go_wp2_with fail
  refine (turn2_any c F (w.heap.size + 1) top st f n row 2 2 2 _ HF1 (by omega) (hide (by decide)) (by have := heap_alloc_new (w.alloc (insO 19 a nn)) (.cells #[.int .i64 2, .int .i64 2] 3); simpa using this) (by omega) r hr).mono ?_
  rintro e w9 hS
  have HG9 : Hid (w.grownBy w9 (some F)) := grown_tr HG1.out hS.grown
  cases r with
  | error er =>
    obtain rfl := hS.no er rfl
    clear hS
    go_wp2
    exact ⟨rfl, SEnds.bad HG9.out rfl⟩
  | ok st9 =>
    obtain ⟨rfl, top9, hF9⟩ := hS.yes st9 rfl
    have HF9 := hide hF9
    clear hS hF9
    go_wp2
    go_end0
    exact SEnds.good HG9.out rfl HF9.out

set_option maxRecDepth 100000 in
set_option maxHeartbeats 2000000 in
theorem reck20 (c : FC) (F B : Nat) (top : Option Addr) (st : List Int) (f : Vf.Fl) (n : Int) (row : Value) (a nn : Int) (w : World) (h : Hid (FlIn c w F top st f n row)) (hE : Hid (Env c B F w)) (hl : st.length ≤ 300) (r : Except Int (List Int)) (hr : Hid (r = Vf.turn 2 [2, 2] st)) :
    Calls Tryz.prog 63 #[.pointer (some ⟨F, 0, none⟩), .agg #[.int .i64 20, .int .i64 a, .int .i64 nn]] w fun e w' => SEnds c F f n row r w e w' := by
  have hlt := hE.out.lt
  have HF0 := hide (h.out.alloc (insO 20 a nn))
  have HG0 : Hid (w.grownBy (w.alloc (insO 20 a nn)) (some F)) := grown_new _
  have HF1 : Hid (FlIn c ((w.alloc (insO 20 a nn)).alloc (.cells #[.int .i64 2, .int .i64 2] 3)) F top st f n row) := HF0.out.alloc _
  have HG1 : Hid (w.grownBy ((w.alloc (insO 20 a nn)).alloc (.cells #[.int .i64 2, .int .i64 2] 3)) (some F)) := grown_alloc (grown_new _) _
  go_enter Tryz.func63, Tryz.ntmps63
  go_wp2_with fail
  refine (turn2_any c F (w.heap.size + 1) top st f n row 2 2 2 _ HF1 (by omega) (hide (by decide)) (by have := heap_alloc_new (w.alloc (insO 20 a nn)) (.cells #[.int .i64 2, .int .i64 2] 3); simpa using this) (by omega) r hr).mono ?_
  rintro e w9 hS
  have HG9 : Hid (w.grownBy w9 (some F)) := grown_tr HG1.out hS.grown
  cases r with
  | error er =>
    obtain rfl := hS.no er rfl
    clear hS
    go_wp2
    exact ⟨rfl, SEnds.bad HG9.out rfl⟩
  | ok st9 =>
    obtain ⟨rfl, top9, hF9⟩ := hS.yes st9 rfl
    have HF9 := hide hF9
    clear hS hF9
    go_wp2
    go_end0
    exact SEnds.good HG9.out rfl HF9.out

end Go.Proofs.YtnfbfdajdflfgaaGreat

