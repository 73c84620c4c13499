/- The walk of reckon: of two types. -/
import Derived.Test.YtbkimpimoclobaaM7
import Derived.Maps.RangeWalk
namespace Go.Proofs.Ytbkimpimoclobaa
open Go.RowKit

set_option maxRecDepth 100000 in
set_option maxHeartbeats 2000000 in
theorem reck8 (c : FC) (F B : Nat) (top : Option Addr) (st : List Int) (f : Vf.Fl) (n : Int) (row : Value) (a nn : Int) (w : World) (h : Hid (FlIn c w F top st f n row)) (hE : Hid (Env c B F w)) (hl : st.length ≤ 300) (r : Except Int (List Int)) (hr : Hid (r = Vf.turn 1 [1, 1] st)) :
    Calls Try.prog 45 #[.pointer (some ⟨F, 0, none⟩), .agg #[.int .i64 8, .int .i64 a, .int .i64 nn]] w fun e w' => SEnds c F f n row r w e w' := by
  have hlt := hE.out.lt
  have HF0 := hide (h.out.alloc (insO 8 a nn))
  have HG0 : Hid (w.grownBy (w.alloc (insO 8 a nn)) (some F)) := grown_new _
  have HF1 : Hid (FlIn c ((w.alloc (insO 8 a nn)).alloc (.cells #[.int .i64 1, .int .i64 1] 3)) F top st f n row) := HF0.out.alloc _
  have HG1 : Hid (w.grownBy ((w.alloc (insO 8 a nn)).alloc (.cells #[.int .i64 1, .int .i64 1] 3)) (some F)) := grown_alloc (grown_new _) _
  go_enter Try.func45, Try.ntmps45
  go_wp2_with fail
  refine (turn2_any c F (w.heap.size + 1) top st f n row 1 1 1 _ HF1 (by omega) (hide (by decide)) (by have := heap_alloc_new (w.alloc (insO 8 a nn)) (.cells #[.int .i64 1, .int .i64 1] 3); simpa using this) (by omega) r hr).mono ?_
  rintro e w9 hS
  have HG9 : Hid (w.grownBy w9 (some F)) := grown_tr HG1.out hS.grown
  cases r with
  | error er =>
    obtain rfl := hS.no er rfl
    clear hS
    go_wp2
    exact ⟨rfl, SEnds.bad HG9.out rfl⟩
  | ok st9 =>
    obtain ⟨rfl, top9, hF9⟩ := hS.yes st9 rfl
    have HF9 := hide hF9
    clear hS hF9
    go_wp2
    go_end0
    exact SEnds.good HG9.out rfl HF9.out

set_option maxRecDepth 100000 in
set_option maxHeartbeats 2000000 in
theorem reck9 (c : FC) (F B : Nat) (top : Option Addr) (st : List Int) (f : Vf.Fl) (n : Int) (row : Value) (a nn : Int) (w : World) (h : Hid (FlIn c w F top st f n row)) (hE : Hid (Env c B F w)) (hl : st.length ≤ 300) (r : Except Int (List Int)) (hr : Hid (r = Vf.turn 1 [1, 1] st)) :
    Calls Try.prog 45 #[.pointer (some ⟨F, 0, none⟩), .agg #[.int .i64 9, .int .i64 a, .int .i64 nn]] w fun e w' => SEnds c F f n row r w e w' := by
  have hlt := hE.out.lt
  have HF0 := hide (h.out.alloc (insO 9 a nn))
  have HG0 : Hid (w.grownBy (w.alloc (insO 9 a nn)) (some F)) := grown_new _
  have HF1 : Hid (FlIn c ((w.alloc (insO 9 a nn)).alloc (.cells #[.int .i64 1, .int .i64 1] 3)) F top st f n row) := HF0.out.alloc _
  have HG1 : Hid (w.grownBy ((w.alloc (insO 9 a nn)).alloc (.cells #[.int .i64 1, .int .i64 1] 3)) (some F)) := grown_alloc (grown_new _) _
  go_enter Try.func45, Try.ntmps45
  go_wp2_with fail
  refine (turn2_any c F (w.heap.size + 1) top st f n row 1 1 1 _ HF1 (by omega) (hide (by decide)) (by have := heap_alloc_new (w.alloc (insO 9 a nn)) (.cells #[.int .i64 1, .int .i64 1] 3); simpa using this) (by omega) r hr).mono ?_
  rintro e w9 hS
  have HG9 : Hid (w.grownBy w9 (some F)) := grown_tr HG1.out hS.grown
  cases r with
  | error er =>
    obtain rfl := hS.no er rfl
    clear hS
    go_wp2
    exact ⟨rfl, SEnds.bad HG9.out rfl⟩
  | ok st9 =>
    obtain ⟨rfl, top9, hF9⟩ := hS.yes st9 rfl
    have HF9 := hide hF9
    clear hS hF9
    go_wp2
    go_end0
    exact SEnds.good HG9.out rfl HF9.out

set_option maxRecDepth 100000 in
set_option maxHeartbeats 2000000 in
theorem reck10 (c : FC) (F B : Nat) (top : Option Addr) (st : List Int) (f : Vf.Fl) (n : Int) (row : Value) (a nn : Int) (w : World) (h : Hid (FlIn c w F top st f n row)) (hE : Hid (Env c B F w)) (hl : st.length ≤ 300) (r : Except Int (List Int)) (hr : Hid (r = Vf.turn 1 [1, 1] st)) :
    Calls Try.prog 45 #[.pointer (some ⟨F, 0, none⟩), .agg #[.int .i64 10, .int .i64 a, .int .i64 nn]] w fun e w' => SEnds c F f n row r w e w' := by
  have hlt := hE.out.lt
  have HF0 := hide (h.out.alloc (insO 10 a nn))
  have HG0 : Hid (w.grownBy (w.alloc (insO 10 a nn)) (some F)) := grown_new _
  have HF1 : Hid (FlIn c ((w.alloc (insO 10 a nn)).alloc (.cells #[.int .i64 1, .int .i64 1] 3)) F top st f n row) := HF0.out.alloc _
  have HG1 : Hid (w.grownBy ((w.alloc (insO 10 a nn)).alloc (.cells #[.int .i64 1, .int .i64 1] 3)) (some F)) := grown_alloc (grown_new _) _
  go_enter Try.func45, Try.ntmps45
  go_wp2_with fail
  refine (turn2_any c F (w.heap.size + 1) top st f n row 1 1 1 _ HF1 (by omega) (hide (by decide)) (by have := heap_alloc_new (w.alloc (insO 10 a nn)) (.cells #[.int .i64 1, .int .i64 1] 3); simpa using this) (by omega) r hr).mono ?_
  rintro e w9 hS
  have HG9 : Hid (w.grownBy w9 (some F)) := grown_tr HG1.out hS.grown
  cases r with
  | error er =>
    obtain rfl := hS.no er rfl
    clear hS
    go_wp2
    exact ⟨rfl, SEnds.bad HG9.out rfl⟩
  | ok st9 =>
    obtain ⟨rfl, top9, hF9⟩ := hS.yes st9 rfl
    have HF9 := hide hF9
    clear hS hF9
    go_wp2
    go_end0
    exact SEnds.good HG9.out rfl HF9.out

set_option maxRecDepth 100000 in
set_option maxHeartbeats 2000000 in
theorem reck11 (c : FC) (F B : Nat) (top : Option Addr) (st : List Int) (f : Vf.Fl) (n : Int) (row : Value) (a nn : Int) (w : World) (h : Hid (FlIn c w F top st f n row)) (hE : Hid (Env c B F w)) (hl : st.length ≤ 300) (r : Except Int (List Int)) (hr : Hid (r = Vf.turn 1 [1, 1] st)) :
    Calls Try.prog 45 #[.pointer (some ⟨F, 0, none⟩), .agg #[.int .i64 11, .int .i64 a, .int .i64 nn]] w fun e w' => SEnds c F f n row r w e w' := by
  have hlt := hE.out.lt
  have HF0 := hide (h.out.alloc (insO 11 a nn))
  have HG0 : Hid (w.grownBy (w.alloc (insO 11 a nn)) (some F)) := grown_new _
  have HF1 : Hid (FlIn c ((w.alloc (insO 11 a nn)).alloc (.cells #[.int .i64 1, .int .i64 1] 3)) F top st f n row) := HF0.out.alloc _
  have HG1 : Hid (w.grownBy ((w.alloc (insO 11 a nn)).alloc (.cells #[.int .i64 1, .int .i64 1] 3)) (some F)) := grown_alloc (grown_new _) _
  go_enter Try.func45, Try.ntmps45
  go_wp2_with fail
  refine (turn2_any c F (w.heap.size + 1) top st f n row 1 1 1 _ HF1 (by omega) (hide (by decide)) (by have := heap_alloc_new (w.alloc (insO 11 a nn)) (.cells #[.int .i64 1, .int .i64 1] 3); simpa using this) (by omega) r hr).mono ?_
  rintro e w9 hS
  have HG9 : Hid (w.grownBy w9 (some F)) := grown_tr HG1.out hS.grown
  cases r with
  | error er =>
    obtain rfl := hS.no er rfl
    clear hS
    go_wp2
    exact ⟨rfl, SEnds.bad HG9.out rfl⟩
  | ok st9 =>
    obtain ⟨rfl, top9, hF9⟩ := hS.yes st9 rfl
    have HF9 := hide hF9
    clear hS hF9
    go_wp2
    go_end0
    exact SEnds.good HG9.out rfl HF9.out

set_option maxRecDepth 100000 in
set_option maxHeartbeats 2000000 in
theorem reck12 (c : FC) (F B : Nat) (top : Option Addr) (st : List Int) (f : Vf.Fl) (n : Int) (row : Value) (a nn : Int) (w : World) (h : Hid (FlIn c w F top st f n row)) (hE : Hid (Env c B F w)) (hl : st.length ≤ 300) (r : Except Int (List Int)) (hr : Hid (r = Vf.turn 1 [1, 1] st)) :
    Calls Try.prog 45 #[.pointer (some ⟨F, 0, none⟩), .agg #[.int .i64 12, .int .i64 a, .int .i64 nn]] w fun e w' => SEnds c F f n row r w e w' := by
  have hlt := hE.out.lt
  have HF0 := hide (h.out.alloc (insO 12 a nn))
  have HG0 : Hid (w.grownBy (w.alloc (insO 12 a nn)) (some F)) := grown_new _
  have HF1 : Hid (FlIn c ((w.alloc (insO 12 a nn)).alloc (.cells #[.int .i64 1, .int .i64 1] 3)) F top st f n row) := HF0.out.alloc _
  have HG1 : Hid (w.grownBy ((w.alloc (insO 12 a nn)).alloc (.cells #[.int .i64 1, .int .i64 1] 3)) (some F)) := grown_alloc (grown_new _) _
  go_enter Try.func45, Try.ntmps45
  go_wp2_with fail
  refine (turn2_any c F (w.heap.size + 1) top st f n row 1 1 1 _ HF1 (by omega) (hide (by decide)) (by have := heap_alloc_new (w.alloc (insO 12 a nn)) (.cells #[.int .i64 1, .int .i64 1] 3); simpa using this) (by omega) r hr).mono ?_
  rintro e w9 hS
  have HG9 : Hid (w.grownBy w9 (some F)) := grown_tr HG1.out hS.grown
  cases r with
  | error er =>
    obtain rfl := hS.no er rfl
    clear hS
    go_wp2
    exact ⟨rfl, SEnds.bad HG9.out rfl⟩
  | ok st9 =>
    obtain ⟨rfl, top9, hF9⟩ := hS.yes st9 rfl
    have HF9 := hide hF9
    clear hS hF9
    go_wp2
    go_end0
    exact SEnds.good HG9.out rfl HF9.out

set_option maxRecDepth 100000 in
set_option maxHeartbeats 2000000 in
theorem reck15 (c : FC) (F B : Nat) (top : Option Addr) (st : List Int) (f : Vf.Fl) (n : Int) (row : Value) (a nn : Int) (w : World) (h : Hid (FlIn c w F top st f n row)) (hE : Hid (Env c B F w)) (hl : st.length ≤ 300) (r : Except Int (List Int)) (hr : Hid (r = Vf.turn 2 [1, 1] st)) :
    Calls Try.prog 45 #[.pointer (some ⟨F, 0, none⟩), .agg #[.int .i64 15, .int .i64 a, .int .i64 nn]] w fun e w' => SEnds c F f n row r w e w' := by
  have hlt := hE.out.lt
  have HF0 := hide (h.out.alloc (insO 15 a nn))
  have HG0 : Hid (w.grownBy (w.alloc (insO 15 a nn)) (some F)) := grown_new _
  have HF1 : Hid (FlIn c ((w.alloc (insO 15 a nn)).alloc (.cells #[.int .i64 1, .int .i64 1] 3)) F top st f n row) := HF0.out.alloc _
  have HG1 : Hid (w.grownBy ((w.alloc (insO 15 a nn)).alloc (.cells #[.int .i64 1, .int .i64 1] 3)) (some F)) := grown_alloc (grown_new _) _
  go_enter Try.func45, Try.ntmps45
  go_wp2_with fail
  refine (turn2_any c F (w.heap.size + 1) top st f n row 2 1 1 _ HF1 (by omega) (hide (by decide)) (by have := heap_alloc_new (w.alloc (insO 15 a nn)) (.cells #[.int .i64 1, .int .i64 1] 3); simpa using this) (by omega) r hr).mono ?_
  rintro e w9 hS
  have HG9 : Hid (w.grownBy w9 (some F)) := grown_tr HG1.out hS.grown
  cases r with
  | error er =>
    obtain rfl := hS.no er rfl
    clear hS
    go_wp2
    exact ⟨rfl, SEnds.bad HG9.out rfl⟩
  | ok st9 =>
    obtain ⟨rfl, top9, hF9⟩ := hS.yes st9 rfl
    have HF9 := hide hF9
    clear hS hF9
    go_wp2
    go_end0
    exact SEnds.good HG9.out rfl HF9.out

set_option maxRecDepth 100000 in
set_option maxHeartbeats 2000000 in
theorem reck16 (c : FC) (F B : Nat) (top : Option Addr) (st : List Int) (f : Vf.Fl) (n : Int) (row : Value) (a nn : Int) (w : World) (h : Hid (FlIn c w F top st f n row)) (hE : Hid (Env c B F w)) (hl : st.length ≤ 300) (r : Except Int (List Int)) (hr : Hid (r = Vf.turn 2 [1, 1] st)) :
    Calls Try.prog 45 #[.pointer (some ⟨F, 0, none⟩), .agg #[.int .i64 16, .int .i64 a, .int .i64 nn]] w fun e w' => SEnds c F f n row r w e w' := by
  have hlt := hE.out.lt
  have HF0 := hide (h.out.alloc (insO 16 a nn))
  have HG0 : Hid (w.grownBy (w.alloc (insO 16 a nn)) (some F)) := grown_new _
  have HF1 : Hid (FlIn c ((w.alloc (insO 16 a nn)).alloc (.cells #[.int .i64 1, .int .i64 1] 3)) F top st f n row) := HF0.out.alloc _
  have HG1 : Hid (w.grownBy ((w.alloc (insO 16 a nn)).alloc (.cells #[.int .i64 1, .int .i64 1] 3)) (some F)) := grown_alloc (grown_new _) _
  go_enter Try.func45, Try.ntmps45
  go_wp2_with fail
  refine (turn2_any c F (w.heap.size + 1) top st f n row 2 1 1 _ HF1 (by omega) (hide (by decide)) (by have := heap_alloc_new (w.alloc (insO 16 a nn)) (.cells #[.int .i64 1, .int .i64 1] 3); simpa using this) (by omega) r hr).mono ?_
  rintro e w9 hS
  have HG9 : Hid (w.grownBy w9 (some F)) := grown_tr HG1.out hS.grown
  cases r with
  | error er =>
    obtain rfl := hS.no er rfl
    clear hS
    go_wp2
    exact ⟨rfl, SEnds.bad HG9.out rfl⟩
  | ok st9 =>
    obtain ⟨rfl, top9, hF9⟩ := hS.yes st9 rfl
    have HF9 := hide hF9
    clear hS hF9
    go_wp2
    go_end0
    exact SEnds.good HG9.out rfl HF9.out

set_option maxRecDepth 100000 in
set_option maxHeartbeats 2000000 in
theorem reck17 (c : FC) (F B : Nat) (top : Option Addr) (st : List Int) (f : Vf.Fl) (n : Int) (row : Value) (a nn : Int) (w : World) (h : Hid (FlIn c w F top st f n row)) (hE : Hid (Env c B F w)) (hl : st.length ≤ 300) (r : Except Int (List Int)) (hr : Hid (r = Vf.turn 2 [1, 1] st)) :
    Calls Try.prog 45 #[.pointer (some ⟨F, 0, none⟩), .agg #[.int .i64 17, .int .i64 a, .int .i64 nn]] w fun e w' => SEnds c F f n row r w e w' := by
  have hlt := hE.out.lt
  have HF0 := hide (h.out.alloc (insO 17 a nn))
  have HG0 : Hid (w.grownBy (w.alloc (insO 17 a nn)) (some F)) := grown_new _
  have HF1 : Hid (FlIn c ((w.alloc (insO 17 a nn)).alloc (.cells #[.int .i64 1, .int .i64 1] 3)) F top st f n row) := HF0.out.alloc _
  have HG1 : Hid (w.grownBy ((w.alloc (insO 17 a nn)).alloc (.cells #[.int .i64 1, .int .i64 1] 3)) (some F)) := grown_alloc (grown_new _) _
  go_enter Try.func45, Try.ntmps45
  go_wp2_with fail
  refine (turn2_any c F (w.heap.size + 1) top st f n row 2 1 1 _ HF1 (by omega) (hide (by decide)) (by have := heap_alloc_new (w.alloc (insO 17 a nn)) (.cells #[.int .i64 1, .int .i64 1] 3); simpa using this) (by omega) r hr).mono ?_
  rintro e w9 hS
  have HG9 : Hid (w.grownBy w9 (some F)) := grown_tr HG1.out hS.grown
  cases r with
  | error er =>
    obtain rfl := hS.no er rfl
    clear hS
    go_wp2
    exact ⟨rfl, SEnds.bad HG9.out rfl⟩
  | ok st9 =>
    obtain ⟨rfl, top9, hF9⟩ := hS.yes st9 rfl
    have HF9 := hide hF9
    clear hS hF9
    go_wp2
    go_end0
    exact SEnds.good HG9.out rfl HF9.out

set_option maxRecDepth 100000 in
set_option maxHeartbeats 2000000 in
theorem reck18 (c : FC) (F B : Nat) (top : Option Addr) (st : List Int) (f : Vf.Fl) (n : Int) (row : Value) (a nn : Int) (w : World) (h : Hid (FlIn c w F top st f n row)) (hE : Hid (Env c B F w)) (hl : st.length ≤ 300) (r : Except Int (List Int)) (hr : Hid (r = Vf.turn 2 [1, 1] st)) :
    Calls Try.prog 45 #[.pointer (some ⟨F, 0, none⟩), .agg #[.int .i64 18, .int .i64 a, .int .i64 nn]] w fun e w' => SEnds c F f n row r w e w' := by
  have hlt := hE.out.lt
  have HF0 := hide (h.out.alloc (insO 18 a nn))
  have HG0 : Hid (w.grownBy (w.alloc (insO 18 a nn)) (some F)) := grown_new _
  have HF1 : Hid (FlIn c ((w.alloc (insO 18 a nn)).alloc (.cells #[.int .i64 1, .int .i64 1] 3)) F top st f n row) := HF0.out.alloc _
  have HG1 : Hid (w.grownBy ((w.alloc (insO 18 a nn)).alloc (.cells #[.int .i64 1, .int .i64 1] 3)) (some F)) := grown_alloc (grown_new _) _
  go_enter Try.func45, Try.ntmps45
  go_wp2_with fail
  refine (turn2_any c F (w.heap.size + 1) top st f n row 2 1 1 _ HF1 (by omega) (hide (by decide)) (by have := heap_alloc_new (w.alloc (insO 18 a nn)) (.cells #[.int .i64 1, .int .i64 1] 3); simpa using this) (by omega) r hr).mono ?_
  rintro e w9 hS
  have HG9 : Hid (w.grownBy w9 (some F)) := grown_tr HG1.out hS.grown
  cases r with
  | error er =>
    obtain rfl := hS.no er rfl
    clear hS
    go_wp2
    exact ⟨rfl, SEnds.bad HG9.out rfl⟩
  | ok st9 =>
    obtain ⟨rfl, top9, hF9⟩ := hS.yes st9 rfl
    have HF9 := hide hF9
    clear hS hF9
    go_wp2
    go_end0
    exact SEnds.good HG9.out rfl HF9.out

set_option maxRecDepth 100000 in
set_option maxHeartbeats 2000000 in
theorem reck19 (c : FC) (F B : Nat) (top : Option Addr) (st : List Int) (f : Vf.Fl) (n : Int) (row : Value) (a nn : Int) (w : World) (h : Hid (FlIn c w F top st f n row)) (hE : Hid (Env c B F w)) (hl : st.length ≤ 300) (r : Except Int (List Int)) (hr : Hid (r = Vf.turn 2 [2, 2] st)) :
    Calls Try.prog 45 #[.pointer (some ⟨F, 0, none⟩), .agg #[.int .i64 19, .int .i64 a, .int .i64 nn]] w fun e w' => SEnds c F f n row r w e w' := by
  have hlt := hE.out.lt
  have HF0 := hide (h.out.alloc (insO 19 a nn))
  have HG0 : Hid (w.grownBy (w.alloc (insO 19 a nn)) (some F)) := grown_new _
  have HF1 : Hid (FlIn c ((w.alloc (insO 19 a nn)).alloc (.cells #[.int .i64 2, .int .i64 2] 3)) F top st f n row) := HF0.out.alloc _
  have HG1 : Hid (w.grownBy ((w.alloc (insO 19 a nn)).alloc (.cells #[.int .i64 2, .int .i64 2] 3)) (some F)) := grown_alloc (grown_new _) _
  go_enter Try.func45, Try.ntmps45
  go_wp2_with fail
  refine (turn2_any c F (w.heap.size + 1) top st f n row 2 2 2 _ HF1 (by omega) (hide (by decide)) (by have := heap_alloc_new (w.alloc (insO 19 a nn)) (.cells #[.int .i64 2, .int .i64 2] 3); simpa using this) (by omega) r hr).mono ?_
  rintro e w9 hS
  have HG9 : Hid (w.grownBy w9 (some F)) := grown_tr HG1.out hS.grown
  cases r with
  | error er =>
    obtain rfl := hS.no er rfl
    clear hS
    go_wp2
    exact ⟨rfl, SEnds.bad HG9.out rfl⟩
  | ok st9 =>
    obtain ⟨rfl, top9, hF9⟩ := hS.yes st9 rfl
    have HF9 := hide hF9
    clear hS hF9
    go_wp2
    go_end0
    exact SEnds.good HG9.out rfl HF9.out

set_option maxRecDepth 100000 in
set_option maxHeartbeats 2000000 in
theorem reck20 (c : FC) (F B : Nat) (top : Option Addr) (st : List Int) (f : Vf.Fl) (n : Int) (row : Value) (a nn : Int) (w : World) (h : Hid (FlIn c w F top st f n row)) (hE : Hid (Env c B F w)) (hl : st.length ≤ 300) (r : Except Int (List Int)) (hr : Hid (r = Vf.turn 2 [2, 2] st)) :
    Calls Try.prog 45 #[.pointer (some ⟨F, 0, none⟩), .agg #[.int .i64 20, .int .i64 a, .int .i64 nn]] w fun e w' => SEnds c F f n row r w e w' := by
  have hlt := hE.out.lt
  have HF0 := hide (h.out.alloc (insO 20 a nn))
  have HG0 : Hid (w.grownBy (w.alloc (insO 20 a nn)) (some F)) := grown_new _
  have HF1 : Hid (FlIn c ((w.alloc (insO 20 a nn)).alloc (.cells #[.int .i64 2, .int .i64 2] 3)) F top st f n row) := HF0.out.alloc _
  have HG1 : Hid (w.grownBy ((w.alloc (insO 20 a nn)).alloc (.cells #[.int .i64 2, .int .i64 2] 3)) (some F)) := grown_alloc (grown_new _) _
  go_enter Try.func45, Try.ntmps45
  go_wp2_with fail
  refine (turn2_any c F (w.heap.size + 1) top st f n row 2 2 2 _ HF1 (by omega) (hide (by decide)) (by have := heap_alloc_new (w.alloc (insO 20 a nn)) (.cells #[.int .i64 2, .int .i64 2] 3); simpa using this) (by omega) r hr).mono ?_
  rintro e w9 hS
  have HG9 : Hid (w.grownBy w9 (some F)) := grown_tr HG1.out hS.grown
  cases r with
  | error er =>
    obtain rfl := hS.no er rfl
    clear hS
    go_wp2
    exact ⟨rfl, SEnds.bad HG9.out rfl⟩
  | ok st9 =>
    obtain ⟨rfl, top9, hF9⟩ := hS.yes st9 rfl
    have HF9 := hide hF9
    clear hS hF9
    go_wp2
    go_end0
    exact SEnds.good HG9.out rfl HF9.out

end Go.Proofs.Ytbkimpimoclobaa

