/- The walk of reckon: of two types. -/
import Derived.Test.YtekjhefmhhcboaaGreatM3
import Derived.Maps.RangeWalk
import Derived.Test.YtekjhefmhhcboaaGreatM19
set_option maxRecDepth 100000
set_option maxHeartbeats 2000000
namespace Go.Proofs.YtekjhefmhhcboaaGreat
open Go.RowKit
theorem reck8 (c : FC) (F B : Nat) (top : Option Addr) (st : List Int) (f : Vf.Fl) (n : Int) (row : Value) (a nn : Int) (w : World) (h : Hid (FlIn c w F top st f n row)) (hE : Hid (Env c B F w)) (hl : st.length ≤ 300) (r : Except Int (List Int)) (hr : Hid (r = Vf.turn 1 [1, 1] st)) :
  Calls Tryz.prog 67 #[.pointer (some ⟨F, 0, none⟩), .agg #[.int .i64 8, .int .i64 a, .int .i64 nn]] w fun e w' => SEnds c F f n row r w e w' := by
 have hlt := hE.out.lt
 have HF0 := hide (h.out.alloc (insO 8 a nn))
 have HG0 : Hid (w.grownBy (w.alloc (insO 8 a nn)) (some F)) := grown_new _
 have HF1 : Hid (FlIn c ((w.alloc (insO 8 a nn)).alloc (.cells #[.int .i64 1, .int .i64 1] 3)) F top st f n row) := HF0.out.alloc _
 have HG1 : Hid (w.grownBy ((w.alloc (insO 8 a nn)).alloc (.cells #[.int .i64 1, .int .i64 1] 3)) (some F)) := grown_alloc (grown_new _) _
 go_enter Tryz.func67, Tryz.ntmps67
 go_wp2_with fail
 refine (turn2_any c F (w.heap.size + 1) top st f n row 1 1 1 _ HF1 (by omega) (hide (by decide)) (by have := heap_alloc_new (w.alloc (insO 8 a nn)) (.cells #[.int .i64 1, .int .i64 1] 3); simpa using this) (by omega) r hr).mono ?_
 rintro e w9 hS
 have HG9 : Hid (w.grownBy w9 (some F)) := grown_tr HG1.out hS.grown
 cases r with
 | error er =>
  obtain rfl := hS.no er rfl
  clear hS
  go_wp2
  exact ⟨rfl, SEnds.bad HG9.out rfl⟩
 | ok st9 =>
  obtain ⟨rfl, top9, hF9⟩ := hS.yes st9 rfl
  have HF9 := hide hF9
  clear hS hF9
  go_wp2
  go_end0
  exact SEnds.good HG9.out rfl HF9.out
theorem reck9 (c : FC) (F B : Nat) (top : Option Addr) (st : List Int) (f : Vf.Fl) (n : Int) (row : Value) (a nn : Int) (w : World) (h : Hid (FlIn c w F top st f n row)) (hE : Hid (Env c B F w)) (hl : st.length ≤ 300) (r : Except Int (List Int)) (hr : Hid (r = Vf.turn 1 [1, 1] st)) :
  Calls Tryz.prog 67 #[.pointer (some ⟨F, 0, none⟩), .agg #[.int .i64 9, .int .i64 a, .int .i64 nn]] w fun e w' => SEnds c F f n row r w e w' := by
 have hlt := hE.out.lt
 have HF0 := hide (h.out.alloc (insO 9 a nn))
 have HG0 : Hid (w.grownBy (w.alloc (insO 9 a nn)) (some F)) := grown_new _
 have HF1 : Hid (FlIn c ((w.alloc (insO 9 a nn)).alloc (.cells #[.int .i64 1, .int .i64 1] 3)) F top st f n row) := HF0.out.alloc _
 have HG1 : Hid (w.grownBy ((w.alloc (insO 9 a nn)).alloc (.cells #[.int .i64 1, .int .i64 1] 3)) (some F)) := grown_alloc (grown_new _) _
 go_enter Tryz.func67, Tryz.ntmps67
 go_wp2_with fail
 refine (turn2_any c F (w.heap.size + 1) top st f n row 1 1 1 _ HF1 (by omega) (hide (by decide)) (by have := heap_alloc_new (w.alloc (insO 9 a nn)) (.cells #[.int .i64 1, .int .i64 1] 3); simpa using this) (by omega) r hr).mono ?_
 rintro e w9 hS
 have HG9 : Hid (w.grownBy w9 (some F)) := grown_tr HG1.out hS.grown
 cases r with
 | error er =>
  obtain rfl := hS.no er rfl
  clear hS
  go_wp2
  exact ⟨rfl, SEnds.bad HG9.out rfl⟩
 | ok st9 =>
  obtain ⟨rfl, top9, hF9⟩ := hS.yes st9 rfl
  have HF9 := hide hF9
  clear hS hF9
  go_wp2
  go_end0
  exact SEnds.good HG9.out rfl HF9.out
theorem reck10 (c : FC) (F B : Nat) (top : Option Addr) (st : List Int) (f : Vf.Fl) (n : Int) (row : Value) (a nn : Int) (w : World) (h : Hid (FlIn c w F top st f n row)) (hE : Hid (Env c B F w)) (hl : st.length ≤ 300) (r : Except Int (List Int)) (hr : Hid (r = Vf.turn 1 [1, 1] st)) :
  Calls Tryz.prog 67 #[.pointer (some ⟨F, 0, none⟩), .agg #[.int .i64 10, .int .i64 a, .int .i64 nn]] w fun e w' => SEnds c F f n row r w e w' := by
 have hlt := hE.out.lt
 have HF0 := hide (h.out.alloc (insO 10 a nn))
 have HG0 : Hid (w.grownBy (w.alloc (insO 10 a nn)) (some F)) := grown_new _
 have HF1 : Hid (FlIn c ((w.alloc (insO 10 a nn)).alloc (.cells #[.int .i64 1, .int .i64 1] 3)) F top st f n row) := HF0.out.alloc _
 have HG1 : Hid (w.grownBy ((w.alloc (insO 10 a nn)).alloc (.cells #[.int .i64 1, .int .i64 1] 3)) (some F)) := grown_alloc (grown_new _) _
 go_enter Tryz.func67, Tryz.ntmps67
 go_wp2_with fail
 refine (turn2_any c F (w.heap.size + 1) top st f n row 1 1 1 _ HF1 (by omega) (hide (by decide)) (by have := heap_alloc_new (w.alloc (insO 10 a nn)) (.cells #[.int .i64 1, .int .i64 1] 3); simpa using this) (by omega) r hr).mono ?_
 rintro e w9 hS
 have HG9 : Hid (w.grownBy w9 (some F)) := grown_tr HG1.out hS.grown
 cases r with
 | error er =>
  obtain rfl := hS.no er rfl
  clear hS
  go_wp2
  exact ⟨rfl, SEnds.bad HG9.out rfl⟩
 | ok st9 =>
  obtain ⟨rfl, top9, hF9⟩ := hS.yes st9 rfl
  have HF9 := hide hF9
  clear hS hF9
  go_wp2
  go_end0
  exact SEnds.good HG9.out rfl HF9.out
theorem reck11 (c : FC) (F B : Nat) (top : Option Addr) (st : List Int) (f : Vf.Fl) (n : Int) (row : Value) (a nn : Int) (w : World) (h : Hid (FlIn c w F top st f n row)) (hE : Hid (Env c B F w)) (hl : st.length ≤ 300) (r : Except Int (List Int)) (hr : Hid (r = Vf.turn 1 [1, 1] st)) :
  Calls Tryz.prog 67 #[.pointer (some ⟨F, 0, none⟩), .agg #[.int .i64 11, .int .i64 a, .int .i64 nn]] w fun e w' => SEnds c F f n row r w e w' := by
 have hlt := hE.out.lt
 have HF0 := hide (h.out.alloc (insO 11 a nn))
 have HG0 : Hid (w.grownBy (w.alloc (insO 11 a nn)) (some F)) := grown_new _
 have HF1 : Hid (FlIn c ((w.alloc (insO 11 a nn)).alloc (.cells #[.int .i64 1, .int .i64 1] 3)) F top st f n row) := HF0.out.alloc _
 have HG1 : Hid (w.grownBy ((w.alloc (insO 11 a nn)).alloc (.cells #[.int .i64 1, .int .i64 1] 3)) (some F)) := grown_alloc (grown_new _) _
 go_enter Tryz.func67, Tryz.ntmps67
 go_wp2_with fail
 refine (turn2_any c F (w.heap.size + 1) top st f n row 1 1 1 _ HF1 (by omega) (hide (by decide)) (by have := heap_alloc_new (w.alloc (insO 11 a nn)) (.cells #[.int .i64 1, .int .i64 1] 3); simpa using this) (by omega) r hr).mono ?_
 rintro e w9 hS
 have HG9 : Hid (w.grownBy w9 (some F)) := grown_tr HG1.out hS.grown
 cases r with
 | error er =>
  obtain rfl := hS.no er rfl
  clear hS
  go_wp2
  exact ⟨rfl, SEnds.bad HG9.out rfl⟩
 | ok st9 =>
  obtain ⟨rfl, top9, hF9⟩ := hS.yes st9 rfl
  have HF9 := hide hF9
  clear hS hF9
  go_wp2
  go_end0
  exact SEnds.good HG9.out rfl HF9.out
theorem reck12 (c : FC) (F B : Nat) (top : Option Addr) (st : List Int) (f : Vf.Fl) (n : Int) (row : Value) (a nn : Int) (w : World) (h : Hid (FlIn c w F top st f n row)) (hE : Hid (Env c B F w)) (hl : st.length ≤ 300) (r : Except Int (List Int)) (hr : Hid (r = Vf.turn 1 [1, 1] st)) :
  Calls Tryz.prog 67 #[.pointer (some ⟨F, 0, none⟩), .agg #[.int .i64 12, .int .i64 a, .int .i64 nn]] w fun e w' => SEnds c F f n row r w e w' := by
 have hlt := hE.out.lt
 have HF0 := hide (h.out.alloc (insO 12 a nn))
 have HG0 : Hid (w.grownBy (w.alloc (insO 12 a nn)) (some F)) := grown_new _
 have HF1 : Hid (FlIn c ((w.alloc (insO 12 a nn)).alloc (.cells #[.int .i64 1, .int .i64 1] 3)) F top st f n row) := HF0.out.alloc _
 have HG1 : Hid (w.grownBy ((w.alloc (insO 12 a nn)).alloc (.cells #[.int .i64 1, .int .i64 1] 3)) (some F)) := grown_alloc (grown_new _) _
 go_enter Tryz.func67, Tryz.ntmps67
 go_wp2_with fail
 refine (turn2_any c F (w.heap.size + 1) top st f n row 1 1 1 _ HF1 (by omega) (hide (by decide)) (by have := heap_alloc_new (w.alloc (insO 12 a nn)) (.cells #[.int .i64 1, .int .i64 1] 3); simpa using this) (by omega) r hr).mono ?_
 rintro e w9 hS
 have HG9 : Hid (w.grownBy w9 (some F)) := grown_tr HG1.out hS.grown
 cases r with
 | error er =>
  obtain rfl := hS.no er rfl
  clear hS
  go_wp2
  exact ⟨rfl, SEnds.bad HG9.out rfl⟩
 | ok st9 =>
  obtain ⟨rfl, top9, hF9⟩ := hS.yes st9 rfl
  have HF9 := hide hF9
  clear hS hF9
  go_wp2
  go_end0
  exact SEnds.good HG9.out rfl HF9.out
theorem reck15 (c : FC) (F B : Nat) (top : Option Addr) (st : List Int) (f : Vf.Fl) (n : Int) (row : Value) (a nn : Int) (w : World) (h : Hid (FlIn c w F top st f n row)) (hE : Hid (Env c B F w)) (hl : st.length ≤ 300) (r : Except Int (List Int)) (hr : Hid (r = Vf.turn 2 [1, 1] st)) :
  Calls Tryz.prog 67 #[.pointer (some ⟨F, 0, none⟩), .agg #[.int .i64 15, .int .i64 a, .int .i64 nn]] w fun e w' => SEnds c F f n row r w e w' := by
 have hlt := hE.out.lt
 have HF0 := hide (h.out.alloc (insO 15 a nn))
 have HG0 : Hid (w.grownBy (w.alloc (insO 15 a nn)) (some F)) := grown_new _
 have HF1 : Hid (FlIn c ((w.alloc (insO 15 a nn)).alloc (.cells #[.int .i64 1, .int .i64 1] 3)) F top st f n row) := HF0.out.alloc _
 have HG1 : Hid (w.grownBy ((w.alloc (insO 15 a nn)).alloc (.cells #[.int .i64 1, .int .i64 1] 3)) (some F)) := grown_alloc (grown_new _) _
 go_enter Tryz.func67, Tryz.ntmps67
 go_wp2_with fail
 refine (turn2_any c F (w.heap.size + 1) top st f n row 2 1 1 _ HF1 (by omega) (hide (by decide)) (by have := heap_alloc_new (w.alloc (insO 15 a nn)) (.cells #[.int .i64 1, .int .i64 1] 3); simpa using this) (by omega) r hr).mono ?_
 rintro e w9 hS
 have HG9 : Hid (w.grownBy w9 (some F)) := grown_tr HG1.out hS.grown
 cases r with
 | error er =>
  obtain rfl := hS.no er rfl
  clear hS
  go_wp2
  exact ⟨rfl, SEnds.bad HG9.out rfl⟩
 | ok st9 =>
  obtain ⟨rfl, top9, hF9⟩ := hS.yes st9 rfl
  have HF9 := hide hF9
  clear hS hF9
  go_wp2
  go_end0
  exact SEnds.good HG9.out rfl HF9.out
theorem reck16 (c : FC) (F B : Nat) (top : Option Addr) (st : List Int) (f : Vf.Fl) (n : Int) (row : Value) (a nn : Int) (w : World) (h : Hid (FlIn c w F top st f n row)) (hE : Hid (Env c B F w)) (hl : st.length ≤ 300) (r : Except Int (List Int)) (hr : Hid (r = Vf.turn 2 [1, 1] st)) :
  Calls Tryz.prog 67 #[.pointer (some ⟨F, 0, none⟩), .agg #[.int .i64 16, .int .i64 a, .int .i64 nn]] w fun e w' => SEnds c F f n row r w e w' := by
 have hlt := hE.out.lt
 have HF0 := hide (h.out.alloc (insO 16 a nn))
 have HG0 : Hid (w.grownBy (w.alloc (insO 16 a nn)) (some F)) := grown_new _
 have HF1 : Hid (FlIn c ((w.alloc (insO 16 a nn)).alloc (.cells #[.int .i64 1, .int .i64 1] 3)) F top st f n row) := HF0.out.alloc _
 have HG1 : Hid (w.grownBy ((w.alloc (insO 16 a nn)).alloc (.cells #[.int .i64 1, .int .i64 1] 3)) (some F)) := grown_alloc (grown_new _) _
 go_enter Tryz.func67, Tryz.ntmps67
 go_wp2_with fail
 refine (turn2_any c F (w.heap.size + 1) top st f n row 2 1 1 _ HF1 (by omega) (hide (by decide)) (by have := heap_alloc_new (w.alloc (insO 16 a nn)) (.cells #[.int .i64 1, .int .i64 1] 3); simpa using this) (by omega) r hr).mono ?_
 rintro e w9 hS
 have HG9 : Hid (w.grownBy w9 (some F)) := grown_tr HG1.out hS.grown
 cases r with
 | error er =>
  obtain rfl := hS.no er rfl
  clear hS
  go_wp2
  exact ⟨rfl, SEnds.bad HG9.out rfl⟩
 | ok st9 =>
  obtain ⟨rfl, top9, hF9⟩ := hS.yes st9 rfl
  have HF9 := hide hF9
  clear hS hF9
  go_wp2
  go_end0
  exact SEnds.good HG9.out rfl HF9.out
theorem reck17 (c : FC) (F B : Nat) (top : Option Addr) (st : List Int) (f : Vf.Fl) (n : Int) (row : Value) (a nn : Int) (w : World) (h : Hid (FlIn c w F top st f n row)) (hE : Hid (Env c B F w)) (hl : st.length ≤ 300) (r : Except Int (List Int)) (hr : Hid (r = Vf.turn 2 [1, 1] st)) :
  Calls Tryz.prog 67 #[.pointer (some ⟨F, 0, none⟩), .agg #[.int .i64 17, .int .i64 a, .int .i64 nn]] w fun e w' => SEnds c F f n row r w e w' := by
 have hlt := hE.out.lt
 have HF0 := hide (h.out.alloc (insO 17 a nn))
 have HG0 : Hid (w.grownBy (w.alloc (insO 17 a nn)) (some F)) := grown_new _
 have HF1 : Hid (FlIn c ((w.alloc (insO 17 a nn)).alloc (.cells #[.int .i64 1, .int .i64 1] 3)) F top st f n row) := HF0.out.alloc _
 have HG1 : Hid (w.grownBy ((w.alloc (insO 17 a nn)).alloc (.cells #[.int .i64 1, .int .i64 1] 3)) (some F)) := grown_alloc (grown_new _) _
 go_enter Tryz.func67, Tryz.ntmps67
 go_wp2_with fail
 refine (turn2_any c F (w.heap.size + 1) top st f n row 2 1 1 _ HF1 (by omega) (hide (by decide)) (by have := heap_alloc_new (w.alloc (insO 17 a nn)) (.cells #[.int .i64 1, .int .i64 1] 3); simpa using this) (by omega) r hr).mono ?_
 rintro e w9 hS
 have HG9 : Hid (w.grownBy w9 (some F)) := grown_tr HG1.out hS.grown
 cases r with
 | error er =>
  obtain rfl := hS.no er rfl
  clear hS
  go_wp2
  exact ⟨rfl, SEnds.bad HG9.out rfl⟩
 | ok st9 =>
  obtain ⟨rfl, top9, hF9⟩ := hS.yes st9 rfl
  have HF9 := hide hF9
  clear hS hF9
  go_wp2
  go_end0
  exact SEnds.good HG9.out rfl HF9.out
theorem reck18 (c : FC) (F B : Nat) (top : Option Addr) (st : List Int) (f : Vf.Fl) (n : Int) (row : Value) (a nn : Int) (w : World) (h : Hid (FlIn c w F top st f n row)) (hE : Hid (Env c B F w)) (hl : st.length ≤ 300) (r : Except Int (List Int)) (hr : Hid (r = Vf.turn 2 [1, 1] st)) :
  Calls Tryz.prog 67 #[.pointer (some ⟨F, 0, none⟩), .agg #[.int .i64 18, .int .i64 a, .int .i64 nn]] w fun e w' => SEnds c F f n row r w e w' := by
 have hlt := hE.out.lt
 have HF0 := hide (h.out.alloc (insO 18 a nn))
 have HG0 : Hid (w.grownBy (w.alloc (insO 18 a nn)) (some F)) := grown_new _
 have HF1 : Hid (FlIn c ((w.alloc (insO 18 a nn)).alloc (.cells #[.int .i64 1, .int .i64 1] 3)) F top st f n row) := HF0.out.alloc _
 have HG1 : Hid (w.grownBy ((w.alloc (insO 18 a nn)).alloc (.cells #[.int .i64 1, .int .i64 1] 3)) (some F)) := grown_alloc (grown_new _) _
 go_enter Tryz.func67, Tryz.ntmps67
 go_wp2_with fail
 refine (turn2_any c F (w.heap.size + 1) top st f n row 2 1 1 _ HF1 (by omega) (hide (by decide)) (by have := heap_alloc_new (w.alloc (insO 18 a nn)) (.cells #[.int .i64 1, .int .i64 1] 3); simpa using this) (by omega) r hr).mono ?_
 rintro e w9 hS
 have HG9 : Hid (w.grownBy w9 (some F)) := grown_tr HG1.out hS.grown
 cases r with
 | error er =>
  obtain rfl := hS.no er rfl
  clear hS
  go_wp2
  exact ⟨rfl, SEnds.bad HG9.out rfl⟩
 | ok st9 =>
  obtain ⟨rfl, top9, hF9⟩ := hS.yes st9 rfl
  have HF9 := hide hF9
  clear hS hF9
  go_wp2
  go_end0
  exact SEnds.good HG9.out rfl HF9.out
theorem reck19 (c : FC) (F B : Nat) (top : Option Addr) (st : List Int) (f : Vf.Fl) (n : Int) (row : Value) (a nn : Int) (w : World) (h : Hid (FlIn c w F top st f n row)) (hE : Hid (Env c B F w)) (hl : st.length ≤ 300) (r : Except Int (List Int)) (hr : Hid (r = Vf.turn 2 [2, 2] st)) :
  Calls Tryz.prog 67 #[.pointer (some ⟨F, 0, none⟩), .agg #[.int .i64 19, .int .i64 a, .int .i64 nn]] w fun e w' => SEnds c F f n row r w e w' := by
 have hlt := hE.out.lt
 have HF0 := hide (h.out.alloc (insO 19 a nn))
 have HG0 : Hid (w.grownBy (w.alloc (insO 19 a nn)) (some F)) := grown_new _
 have HF1 : Hid (FlIn c ((w.alloc (insO 19 a nn)).alloc (.cells #[.int .i64 2, .int .i64 2] 3)) F top st f n row) := HF0.out.alloc _
 have HG1 : Hid (w.grownBy ((w.alloc (insO 19 a nn)).alloc (.cells #[.int .i64 2, .int .i64 2] 3)) (some F)) := grown_alloc (grown_new _) _
 go_enter Tryz.func67, Tryz.ntmps67
 go_wp2_with fail
 refine (turn2_any c F (w.heap.size + 1) top st f n row 2 2 2 _ HF1 (by omega) (hide (by decide)) (by have := heap_alloc_new (w.alloc (insO 19 a nn)) (.cells #[.int .i64 2, .int .i64 2] 3); simpa using this) (by omega) r hr).mono ?_
 rintro e w9 hS
 have HG9 : Hid (w.grownBy w9 (some F)) := grown_tr HG1.out hS.grown
 cases r with
 | error er =>
  obtain rfl := hS.no er rfl
  clear hS
  go_wp2
  exact ⟨rfl, SEnds.bad HG9.out rfl⟩
 | ok st9 =>
  obtain ⟨rfl, top9, hF9⟩ := hS.yes st9 rfl
  have HF9 := hide hF9
  clear hS hF9
  go_wp2
  go_end0
  exact SEnds.good HG9.out rfl HF9.out
theorem reck20 (c : FC) (F B : Nat) (top : Option Addr) (st : List Int) (f : Vf.Fl) (n : Int) (row : Value) (a nn : Int) (w : World) (h : Hid (FlIn c w F top st f n row)) (hE : Hid (Env c B F w)) (hl : st.length ≤ 300) (r : Except Int (List Int)) (hr : Hid (r = Vf.turn 2 [2, 2] st)) :
  Calls Tryz.prog 67 #[.pointer (some ⟨F, 0, none⟩), .agg #[.int .i64 20, .int .i64 a, .int .i64 nn]] w fun e w' => SEnds c F f n row r w e w' := by
 have hlt := hE.out.lt
 have HF0 := hide (h.out.alloc (insO 20 a nn))
 have HG0 : Hid (w.grownBy (w.alloc (insO 20 a nn)) (some F)) := grown_new _
 have HF1 : Hid (FlIn c ((w.alloc (insO 20 a nn)).alloc (.cells #[.int .i64 2, .int .i64 2] 3)) F top st f n row) := HF0.out.alloc _
 have HG1 : Hid (w.grownBy ((w.alloc (insO 20 a nn)).alloc (.cells #[.int .i64 2, .int .i64 2] 3)) (some F)) := grown_alloc (grown_new _) _
 go_enter Tryz.func67, Tryz.ntmps67
 go_wp2_with fail
 refine (turn2_any c F (w.heap.size + 1) top st f n row 2 2 2 _ HF1 (by omega) (hide (by decide)) (by have := heap_alloc_new (w.alloc (insO 20 a nn)) (.cells #[.int .i64 2, .int .i64 2] 3); simpa using this) (by omega) r hr).mono ?_
 rintro e w9 hS
 have HG9 : Hid (w.grownBy w9 (some F)) := grown_tr HG1.out hS.grown
 cases r with
 | error er =>
  obtain rfl := hS.no er rfl
  clear hS
  go_wp2
  exact ⟨rfl, SEnds.bad HG9.out rfl⟩
 | ok st9 =>
  obtain ⟨rfl, top9, hF9⟩ := hS.yes st9 rfl
  have HF9 := hide hF9
  clear hS hF9
  go_wp2
  go_end0
  exact SEnds.good HG9.out rfl HF9.out
theorem reck3 (c : FC) (F B : Nat) (top : Option Addr) (st : List Int) (f : Vf.Fl) (n : Int) (row : Value) (nn : Int) (k : Nat) (x : Int) (hx : Hid (c.u.locals[k]? = some x)) (hk : k < 256) (w : World) (h : Hid (FlIn c w F top st f n row)) (hE : Hid (Env c B F w)) (hl : st.length ≤ 300) (r : Except Int (List Int)) (hr : Hid (r = Vf.andThen (Vf.must (f.has k) 11 st) (Vf.put x))) :
  Calls Tryz.prog 67 #[.pointer (some ⟨F, 0, none⟩), .agg #[.int .i64 3, .int .i64 (k : Int), .int .i64 nn]] w fun e w' => SEnds c F f n row r w e w' := by
 have hlt := hE.out.lt
 have hBF := hE.out.base
 have HF0 := hide (h.out.alloc (insO 3 (k : Int) nn))
 have HG0 : Hid (w.grownBy (w.alloc (insO 3 (k : Int) nn)) (some F)) := grown_new _
 obtain ⟨hx64, b, off, ha, hb, cx⟩ := hE.out.un.locals k x hx.out
 have H64 := hide hx64
 have hku : k < c.u.locals.length := (List.getElem?_eq_some_iff.1 hx.out).1
 have hk1 : (k : Int) < (c.u.locals.length : Int) := by omega
 have d2 : (w.alloc (insO 3 (k : Int) nn)).cell? ⟨w.heap.size, 1, none⟩ = some (.int .i64 (k : Int)) := (ins_cells (alloc_at w _)).2.1
 have d3 : (w.alloc (insO 3 (k : Int) nn)).cell? ⟨b, off + k, none⟩ = some (.int .i64 x) := (cell_new _ _ (by omega)).trans cx
 have HA := hide ha
 have HS2 : Hid (∀ w3, (w.alloc (insO 3 (k : Int) nn)).grownBy w3 (some F) → w3.cell? ⟨F, 4, none⟩ = some (.slice c.al c.u.locals.length c.cl) → (w3.cell? ⟨F, 4, none⟩ = some (.slice (some ⟨b, off, none⟩) c.u.locals.length c.cl) ∧ w3.cell? ⟨w.heap.size, 1, none⟩ = some (.int .i64 (k : Int)) ∧ w3.cell? ⟨b, off + k, none⟩ = some (.int .i64 x))) := fun w3 hg3 h1 => ⟨by rw [h1, HA.out], (cell_eq (kept hg3 (by simp) (by omega)) _).trans d2, (cell_eq (kept hg3 (by simp; omega) (by omega)) _).trans d3⟩
 clear hx64 cx ha
 obtain ⟨e10, e11, e12, e13, _⟩ := fl_cells3 HF0.out.blk
 have c14 := (fl_cells4 HF0.out.blk).1
 obtain ⟨bb, hbb⟩ : ∃ bb, bb = f.has k := ⟨_, rfl⟩
 have HB := hide hbb
 have HRb : Hid (r = Vf.andThen (Vf.must bb 11 st) (Vf.put x)) := by unfold Hid; rw [hr.out, hbb]
 clear hbb hr
 obtain ⟨fo, hfo⟩ : ∃ fo : Obj, fo = .cells #[bvV f.a, bvV f.b, bvV f.c, bvV f.d] 115 (0, 0) := ⟨_, rfl⟩
 have HFO := hide hfo
 clear hfo
 have HF1 : Hid (FlIn c ((w.alloc (insO 3 (k : Int) nn)).drew.alloc fo) F top st f n row) := HF0.out.drew.alloc _
 have HG1 : Hid (w.grownBy ((w.alloc (insO 3 (k : Int) nn)).drew.alloc fo) (some F)) := grown_alloc (grown_drew2 (grown_new _)) _
 have HT1 : Hid ((w.alloc (insO 3 (k : Int) nn)).grownBy ((w.alloc (insO 3 (k : Int) nn)).drew.alloc fo) (some F)) := grown_alloc (grown_drew2 (grown_refl _ _)) _
 have c14' := (fl_cells4 HF1.out.blk).1
 have k2 : ((w.alloc (insO 3 (k : Int) nn)).drew.alloc fo).cell? ⟨w.heap.size, 1, none⟩ = some (.int .i64 (k : Int)) := (cell_eq (kept HT1.out (by simp) (by omega)) _).trans d2
 obtain ⟨k10, k11, k12, k13, _⟩ := fl_cells3 HF1.out.blk
 go_enter Tryz.func67, Tryz.ntmps67
 go_wp2_with fail
 refine wp_region_held_drew (S := fun w' => w'.cell? ⟨F, 10, none⟩ = some (bvV f.a) ∧ w'.cell? ⟨F, 11, none⟩ = some (bvV f.b) ∧ w'.cell? ⟨F, 12, none⟩ = some (bvV f.c) ∧ w'.cell? ⟨F, 13, none⟩ = some (bvV f.d) ∧ w'.cell? ⟨w.heap.size, 1, none⟩ = some (.int .i64 (k : Int))) (by kernel_rfl) ⟨e10, e11, e12, e13, d2⟩ (fun hHeld => ?_)
 refine wpAnyH_take (i := 0) (oi := _) (v := ?_) rfl (by kernel_rfl) (by kernel_rfl) (by kernel_rfl) (fun _ _ _ h => h) (Or.inl ⟨by rfl, ?_⟩) (by assumption) ?_
 rotate_left
 ·intro w hSw
  (try dsimp only at hSw)
  go_simp
  (try with_reducible rfl)
 (try go_frame)
 refine wpAnyH_take (i := 1) (oi := _) (v := ?_) rfl (by kernel_rfl) (by kernel_rfl) (by kernel_rfl) (fun _ _ _ h => h) (Or.inl ⟨by rfl, ?_⟩) (by assumption) ?_
 rotate_left
 ·intro w hSw
  (try dsimp only at hSw)
  go_simp
  (try with_reducible rfl)
 (try go_frame)
 refine wpAnyH_take (i := 2) (oi := _) (v := ?_) rfl (by kernel_rfl) (by kernel_rfl) (by kernel_rfl) (fun _ _ _ h => h) (Or.inl ⟨by rfl, ?_⟩) (by assumption) ?_
 rotate_left
 ·intro w hSw
  (try dsimp only at hSw)
  go_simp
  (try with_reducible rfl)
 (try go_frame)
 refine wpAnyH_take (i := 3) (oi := _) (v := ?_) rfl (by kernel_rfl) (by kernel_rfl) (by kernel_rfl) (fun _ _ _ h => h) (Or.inl ⟨by rfl, ?_⟩) (by assumption) ?_
 rotate_left
 ·intro w hSw
  (try dsimp only at hSw)
  go_simp
  (try with_reducible rfl)
 (try go_frame)
 refine wpAnyH_take (i := 4) (oi := _) (v := ?_) rfl (by kernel_rfl) (by kernel_rfl) (by kernel_rfl) (fun _ _ _ h => h) (Or.inl ⟨by rfl, ?_⟩) (by assumption) ?_
 rotate_left
 ·intro w hSw
  (try dsimp only at hSw)
  go_simp
  (try with_reducible rfl)
 (try go_frame)
 refine wpAnyH_take (i := 5) (oi := _) (v := ?_) rfl (by kernel_rfl) (by kernel_rfl) (by kernel_rfl) (fun _ _ _ h => h) (Or.inl ⟨by rfl, ?_⟩) (by assumption) ?_
 rotate_left
 ·intro w hSw
  (try dsimp only at hSw)
  go_simp
  (try with_reducible rfl)
 (try go_frame)
 refine wpAnyH_take (i := 6) (oi := _) (v := ?_) rfl (by kernel_rfl) (by kernel_rfl) (by kernel_rfl) (fun _ _ _ h => h) (Or.inl ⟨by rfl, ?_⟩) (by assumption) ?_
 rotate_left
 ·intro w hSw
  (try dsimp only at hSw)
  go_simp
  (try with_reducible rfl)
 (try go_frame)
 refine wpAnyH_take (i := 7) (oi := _) (v := ?_) rfl (by kernel_rfl) (by kernel_rfl) (by kernel_rfl) (fun _ _ _ h => h) (Or.inl ⟨by rfl, ?_⟩) (by assumption) ?_
 rotate_left
 ·intro w hSw
  (try dsimp only at hSw)
  go_simp
  (try with_reducible rfl)
 (try go_frame)
 refine wpAnyH_ready (rs := [8]) (by kernel_rfl) (by simp) ?_
 refine AllReadyH.cons (o := _) rfl (fun K hK => ?_) AllReadyH.nil
 go_simp
 refine (has_any f k hk _ bb HB).mono ?_
 rintro e w1 ⟨rfl, hw1⟩
 rw [← HFO.out] at hw1
 subst hw1
 refine hK.out _ _ ⟨k10, k11, k12, k13, k2⟩ (fun hHeld => ?_)
 clear hK
 refine wpAnyH_ready (rs := [9]) (by kernel_rfl) (by simp) ?_
 refine AllReadyH.cons (o := _) rfl (fun K hK => ?_) AllReadyH.nil
 go_simp
 refine (must_any F bb 11 n _ c14').mono ?_
 rintro e w2 ⟨he, hw2⟩
 subst hw2
 cases bb with
 | false =>
  obtain rfl : e = .panicked [fltE 11 n] := he
  have HE : Hid (r = .error 11) := HRb.out
  clear hK
  go_wp2
  exact ⟨rfl, SEnds.bad HG1.out HE.out⟩
 | true =>
  obtain rfl : e = .returned (.tuple #[]) := he
  have HR2 : Hid (r = Vf.put x st) := HRb.out
  refine hK.out _ _ ⟨k10, k11, k12, k13, k2⟩ (fun hHeld => ?_)
  clear hK hHeld
  refine wpAnyH_done (by kernel_rfl) ?_ _
  have q := HS2.out _ HT1.out (fl_cells HF1.out.blk).2.2.2.2.1
  clear e10 e11 e12 e13 k10 k11 k12 k13 k2 c14 c14' d2 d3 HRb HB
  generalize ((w.alloc (insO 3 (k : Int) nn)).drew.alloc fo) = W1 at *
  go_wp2_with fail
  refine wp_region_held_drew (S := fun w' => w'.cell? ⟨F, 4, none⟩ = some (.slice (some ⟨b, off, none⟩) c.u.locals.length c.cl) ∧ w'.cell? ⟨w.heap.size, 1, none⟩ = some (.int .i64 (k : Int)) ∧ w'.cell? ⟨b, off + k, none⟩ = some (.int .i64 x)) (by kernel_rfl) q (fun hHeld => ?_)
  refine wpAnyH_take (i := 0) (oi := _) (v := ?_) rfl (by kernel_rfl) (by kernel_rfl) (by kernel_rfl) (fun _ _ _ h => h) (Or.inl ⟨by rfl, ?_⟩) (by assumption) ?_
  rotate_left
  ·intro w hSw
   (try dsimp only at hSw)
   go_simp
   (try with_reducible rfl)
  (try go_frame)
  refine wpAnyH_take (i := 1) (oi := _) (v := ?_) rfl (by kernel_rfl) (by kernel_rfl) (by kernel_rfl) (fun _ _ _ h => h) (Or.inl ⟨by rfl, ?_⟩) (by assumption) ?_
  rotate_left
  ·intro w hSw
   (try dsimp only at hSw)
   go_simp
   (try with_reducible rfl)
  (try go_frame)
  refine wpAnyH_take (i := 2) (oi := _) (v := ?_) rfl (by kernel_rfl) (by kernel_rfl) (by kernel_rfl) (fun _ _ _ h => h) (Or.inl ⟨by rfl, ?_⟩) (by assumption) ?_
  rotate_left
  ·intro w hSw
   (try dsimp only at hSw)
   go_simp
   (try with_reducible rfl)
  (try go_frame)
  refine wpAnyH_take (i := 3) (oi := _) (v := ?_) rfl (by kernel_rfl) (by kernel_rfl) (by kernel_rfl) (fun _ _ _ h => h) (Or.inl ⟨by rfl, ?_⟩) (by assumption) ?_
  rotate_left
  ·intro w hSw
   (try dsimp only at hSw)
   go_simp
   (try with_reducible rfl)
  (try go_frame)
  refine wpAnyH_take (i := 4) (oi := _) (v := ?_) rfl (by kernel_rfl) (by kernel_rfl) (by kernel_rfl) (fun _ _ _ h => h) (Or.inl ⟨by rfl, ?_⟩) (by assumption) ?_
  rotate_left
  ·intro w hSw
   (try dsimp only at hSw)
   go_simp
   (try with_reducible rfl)
  (try go_frame)
  refine wpAnyH_take (i := 5) (oi := _) (v := ?_) rfl (by kernel_rfl) (by kernel_rfl) (by kernel_rfl) (fun _ _ _ h => h) (Or.inl ⟨by rfl, ?_⟩) (by assumption) ?_
  rotate_left
  ·intro w hSw
   (try dsimp only at hSw)
   go_simp
   (try with_reducible rfl)
  (try go_frame)
  refine wpAnyH_take (i := 6) (oi := _) (v := ?_) rfl (by kernel_rfl) (by kernel_rfl) (by kernel_rfl) (fun _ _ _ h => h) (Or.inl ⟨by rfl, ?_⟩) (by assumption) ?_
  rotate_left
  ·intro w hSw
   (try dsimp only at hSw)
   go_simp
   (try with_reducible rfl)
  (try go_frame)
  refine wpAnyH_take (i := 7) (oi := _) (v := ?_) rfl (by kernel_rfl) (by kernel_rfl) (by kernel_rfl) (fun _ _ _ h => h) (Or.inl ⟨by rfl, ?_⟩) (by assumption) ?_
  rotate_left
  ·intro w hSw
   (try dsimp only at hSw)
   go_simp
   (try with_reducible rfl)
  (try go_frame)
  refine wpAnyH_take (i := 8) (oi := _) (v := ?_) rfl (by kernel_rfl) (by kernel_rfl) (by kernel_rfl) (fun _ _ _ h => h) (Or.inl ⟨by rfl, ?_⟩) (by assumption) ?_
  rotate_left
  ·intro w hSw
   (try dsimp only at hSw)
   go_simp
   (try with_reducible rfl)
  (try go_frame)
  refine wpAnyH_take (i := 9) (oi := _) (v := ?_) rfl (by kernel_rfl) (by kernel_rfl) (by kernel_rfl) (fun _ _ _ h => h) (Or.inl ⟨by rfl, ?_⟩) (by assumption) ?_
  rotate_left
  ·intro w hSw
   (try dsimp only at hSw)
   go_simp
   (try with_reducible rfl)
  (try go_frame)
  refine wpAnyH_take (i := 10) (oi := _) (v := ?_) rfl (by kernel_rfl) (by kernel_rfl) (by kernel_rfl) (fun _ _ _ h => h) (Or.inl ⟨by rfl, ?_⟩) (by assumption) ?_
  rotate_left
  ·intro w hSw
   (try dsimp only at hSw)
   go_simp
   (try with_reducible rfl)
  (try go_frame)
  refine wpAnyH_ready (rs := [11]) (by kernel_rfl) (by simp) ?_
  refine AllReadyH.cons (o := _) rfl (fun K hK => ?_) AllReadyH.nil
  go_simp
  refine (put_any c F top st f n row x _ (hide HF1.out.drew) (by omega) r HR2).mono ?_
  rintro e w9 hS
  have HG9 : Hid (w.grownBy w9 (some F)) := grown_tr HG1.out (grown_drew hS.grown)
  cases r with
  | error er =>
   obtain rfl := hS.no er rfl
   clear hS hK
   go_wp2
   exact ⟨rfl, SEnds.bad HG9.out rfl⟩
  | ok st9 =>
   obtain ⟨rfl, top9, hF9⟩ := hS.yes st9 rfl
   have HF9 := hide hF9
   refine hK.out _ _ (HS2.out w9 (grown_tr HT1.out (grown_drew hS.grown)) (fl_cells HF9.out.blk).2.2.2.2.1) (fun hHeld => ?_)
   clear hK hS hF9
   refine wpAnyH_done (by kernel_rfl) ?_ _
   go_wp2
   go_end0
   exact SEnds.good HG9.out rfl HF9.out
theorem reck4 (c : FC) (F B : Nat) (top : Option Addr) (st : List Int) (f : Vf.Fl) (n : Int) (row : Value) (nn : Int) (k : Nat) (x : Int) (hx : Hid (c.u.locals[k]? = some x)) (hk : k < 256) (w : World) (h : Hid (FlIn c w F top st f n row)) (hE : Hid (Env c B F w)) (hl : st.length ≤ 300) (r : Except Int (List Int)) (hr : Hid (r = Vf.takeR [x] st)) :
  Calls Tryz.prog 67 #[.pointer (some ⟨F, 0, none⟩), .agg #[.int .i64 4, .int .i64 (k : Int), .int .i64 nn]] w fun e w' => SEnds c F (f.fill k) n row r w e w' := by
 have hlt := hE.out.lt
 have hBF := hE.out.base
 have HF0 := hide (h.out.alloc (insO 4 (k : Int) nn))
 have HG0 : Hid (w.grownBy (w.alloc (insO 4 (k : Int) nn)) (some F)) := grown_new _
 obtain ⟨hx64, b, off, ha, hb, cx⟩ := hE.out.un.locals k x hx.out
 have H64 := hide hx64
 have hku : k < c.u.locals.length := (List.getElem?_eq_some_iff.1 hx.out).1
 have hk1 : (k : Int) < (c.u.locals.length : Int) := by omega
 have d2 : (w.alloc (insO 4 (k : Int) nn)).cell? ⟨w.heap.size, 1, none⟩ = some (.int .i64 (k : Int)) := (ins_cells (alloc_at w _)).2.1
 have d3 : (w.alloc (insO 4 (k : Int) nn)).cell? ⟨b, off + k, none⟩ = some (.int .i64 x) := (cell_new _ _ (by omega)).trans cx
 have HA := hide ha
 have HS2 : Hid (∀ w3, (w.alloc (insO 4 (k : Int) nn)).grownBy w3 (some F) → w3.cell? ⟨F, 4, none⟩ = some (.slice c.al c.u.locals.length c.cl) → (w3.cell? ⟨F, 4, none⟩ = some (.slice (some ⟨b, off, none⟩) c.u.locals.length c.cl) ∧ w3.cell? ⟨w.heap.size, 1, none⟩ = some (.int .i64 (k : Int)) ∧ w3.cell? ⟨b, off + k, none⟩ = some (.int .i64 x))) := fun w3 hg3 h1 => ⟨by rw [h1, HA.out], (cell_eq (kept hg3 (by simp) (by omega)) _).trans d2, (cell_eq (kept hg3 (by simp; omega) (by omega)) _).trans d3⟩
 clear hx64 cx ha
 obtain ⟨ro, hro⟩ : ∃ ro : Obj, ro = .cells #[.int .i64 x] 3 (0, 0) := ⟨_, rfl⟩
 have HRO := hide hro
 clear hro
 have HF1 : Hid (FlIn c ((w.alloc (insO 4 (k : Int) nn)).drew.alloc ro) F top st f n row) := HF0.out.drew.alloc _
 have HG1 : Hid (w.grownBy ((w.alloc (insO 4 (k : Int) nn)).drew.alloc ro) (some F)) := grown_alloc (grown_drew2 (grown_new _)) _
 have HT1 : Hid ((w.alloc (insO 4 (k : Int) nn)).grownBy ((w.alloc (insO 4 (k : Int) nn)).drew.alloc ro) (some F)) := grown_alloc (grown_drew2 (grown_refl _ _)) _
 have HN1 : Hid (((w.alloc (insO 4 (k : Int) nn)).drew.alloc ro).heap[w.heap.size + 1]? = some (.cells #[.int .i64 x] 3 (0, 0))) := by
   have e : (w.alloc (insO 4 (k : Int) nn)).drew.heap.size = w.heap.size + 1 := by simp
   rw [HRO.out, ← e]
   exact heap_alloc_new _ _
 have q0 := HS2.out _ (grown_refl _ _) (fl_cells HF0.out.blk).2.2.2.2.1
 have q1 := HS2.out _ HT1.out (fl_cells HF1.out.blk).2.2.2.2.1
 rw [HRO.out] at HF1 HG1 HT1 HN1 q1
 have HQ1 := hide q1
 clear q1 d2 d3
 go_enter Tryz.func67, Tryz.ntmps67
 go_wp2_with fail
 refine wp_region_held_drew (S := fun w' => w'.cell? ⟨F, 4, none⟩ = some (.slice (some ⟨b, off, none⟩) c.u.locals.length c.cl) ∧ w'.cell? ⟨w.heap.size, 1, none⟩ = some (.int .i64 (k : Int)) ∧ w'.cell? ⟨b, off + k, none⟩ = some (.int .i64 x)) (by kernel_rfl) q0 (fun hHeld => ?_)
 refine wpAnyH_take (i := 0) (oi := _) (v := ?_) rfl (by kernel_rfl) (by kernel_rfl) (by kernel_rfl) (fun _ _ _ h => h) (Or.inl ⟨by rfl, ?_⟩) (by assumption) ?_
 rotate_left
 ·intro w hSw
  (try dsimp only at hSw)
  go_simp
  (try with_reducible rfl)
 (try go_frame)
 refine wpAnyH_take (i := 1) (oi := _) (v := ?_) rfl (by kernel_rfl) (by kernel_rfl) (by kernel_rfl) (fun _ _ _ h => h) (Or.inl ⟨by rfl, ?_⟩) (by assumption) ?_
 rotate_left
 ·intro w hSw
  (try dsimp only at hSw)
  go_simp
  (try with_reducible rfl)
 (try go_frame)
 refine wpAnyH_take (i := 2) (oi := _) (v := ?_) rfl (by kernel_rfl) (by kernel_rfl) (by kernel_rfl) (fun _ _ _ h => h) (Or.inl ⟨by rfl, ?_⟩) (by assumption) ?_
 rotate_left
 ·intro w hSw
  (try dsimp only at hSw)
  go_simp
  (try with_reducible rfl)
 (try go_frame)
 refine wpAnyH_take (i := 3) (oi := _) (v := ?_) rfl (by kernel_rfl) (by kernel_rfl) (by kernel_rfl) (fun _ _ _ h => h) (Or.inl ⟨by rfl, ?_⟩) (by assumption) ?_
 rotate_left
 ·intro w hSw
  (try dsimp only at hSw)
  go_simp
  (try with_reducible rfl)
 (try go_frame)
 refine wpAnyH_take (i := 4) (oi := _) (v := ?_) rfl (by kernel_rfl) (by kernel_rfl) (by kernel_rfl) (fun _ _ _ h => h) (Or.inl ⟨by rfl, ?_⟩) (by assumption) ?_
 rotate_left
 ·intro w hSw
  (try dsimp only at hSw)
  go_simp
  (try with_reducible rfl)
 (try go_frame)
 refine wpAnyH_take (i := 5) (oi := _) (v := ?_) rfl (by kernel_rfl) (by kernel_rfl) (by kernel_rfl) (fun _ _ _ h => h) (Or.inl ⟨by rfl, ?_⟩) (by assumption) ?_
 rotate_left
 ·intro w hSw
  (try dsimp only at hSw)
  go_simp
  (try with_reducible rfl)
 (try go_frame)
 refine wpAnyH_take (i := 6) (oi := _) (v := ?_) rfl (by kernel_rfl) (by kernel_rfl) (by kernel_rfl) (fun _ _ _ h => h) (Or.inl ⟨by rfl, ?_⟩) (by assumption) ?_
 rotate_left
 ·intro w hSw
  (try dsimp only at hSw)
  go_simp
  (try with_reducible rfl)
 (try go_frame)
 refine wpAnyH_take (i := 7) (oi := _) (v := ?_) rfl (by kernel_rfl) (by kernel_rfl) (by kernel_rfl) (fun _ _ _ h => h) (Or.inl ⟨by rfl, ?_⟩) (by assumption) ?_
 rotate_left
 ·intro w hSw
  (try dsimp only at hSw)
  go_simp
  (try with_reducible rfl)
 (try go_frame)
 refine wpAnyH_take (i := 8) (oi := _) (v := ?_) rfl (by kernel_rfl) (by kernel_rfl) (by kernel_rfl) (fun _ _ _ h => h) (Or.inl ⟨by rfl, ?_⟩) (by assumption) ?_
 rotate_left
 ·intro w hSw
  (try dsimp only at hSw)
  go_simp
  (try with_reducible rfl)
 (try go_frame)
 refine wpAnyH_take (i := 9) (oi := _) (v := ?_) rfl (by kernel_rfl) (by kernel_rfl) (by kernel_rfl) (fun _ _ _ h => h) (Or.inl ⟨by rfl, ?_⟩) (by assumption) ?_
 rotate_left
 ·intro w hSw
  (try dsimp only at hSw)
  go_simp
  (try with_reducible rfl)
 (try go_frame)
 refine wpAnyH_take (i := 10) (oi := _) (v := ?_) rfl (by kernel_rfl) (by kernel_rfl) (by kernel_rfl) (fun _ _ _ h => h) (Or.inl ⟨by rfl, ?_⟩) (by assumption) ?_
 rotate_left
 ·intro w hSw
  (try dsimp only at hSw)
  go_simp
  (try with_reducible rfl)
 (try go_frame)
 refine wpAnyH_ready (rs := [11]) (by kernel_rfl) (by simp) ?_
 refine AllReadyH.cons (o := _) rfl (fun K hK => ?_) AllReadyH.nil
 go_simp
 refine hK.out _ _ HQ1.out (fun hHeld => ?_)
 clear hK
 refine wpAnyH_ready (rs := [12]) (by kernel_rfl) (by simp) ?_
 refine AllReadyH.cons (o := _) rfl (fun K hK => ?_) AllReadyH.nil
 go_simp
 refine (take1_any c F (w.heap.size + 1) top st f n row x _ HF1 (by omega) H64 HN1.out (by omega) r hr).mono ?_
 rintro e w2 hS
 have HG2 : Hid (w.grownBy w2 (some F)) := grown_tr HG1.out hS.grown
 cases r with
 | error er =>
  obtain rfl := hS.no er rfl
  clear hS hK
  go_wp2
  exact ⟨rfl, SEnds.bad HG2.out rfl⟩
 | ok st1 =>
  obtain ⟨rfl, top1, hF2⟩ := hS.yes st1 rfl
  have HF2 := hide hF2
  have q2 := HS2.out w2 (grown_tr HT1.out hS.grown) (fl_cells HF2.out.blk).2.2.2.2.1
  refine hK.out _ _ q2 (fun hHeld => ?_)
  clear hK hS hF2 hHeld q0
  refine wpAnyH_done (by kernel_rfl) ?_ _
  go_wp2_with fail
  refine wp_region_held_drew (S := fun w' => w'.cell? ⟨w.heap.size, 1, none⟩ = some (.int .i64 (k : Int))) (by kernel_rfl) q2.2.1 (fun hHeld => ?_)
  refine wpAnyH_take (i := 0) (oi := _) (v := ?_) rfl (by kernel_rfl) (by kernel_rfl) (by kernel_rfl) (fun _ _ _ h => h) (Or.inl ⟨by rfl, ?_⟩) (by assumption) ?_
  rotate_left
  ·intro w hSw
   (try dsimp only at hSw)
   go_simp
   (try with_reducible rfl)
  (try go_frame)
  refine wpAnyH_take (i := 1) (oi := _) (v := ?_) rfl (by kernel_rfl) (by kernel_rfl) (by kernel_rfl) (fun _ _ _ h => h) (Or.inl ⟨by rfl, ?_⟩) (by assumption) ?_
  rotate_left
  ·intro w hSw
   (try dsimp only at hSw)
   go_simp
   (try with_reducible rfl)
  (try go_frame)
  refine wpAnyH_take (i := 2) (oi := _) (v := ?_) rfl (by kernel_rfl) (by kernel_rfl) (by kernel_rfl) (fun _ _ _ h => h) (Or.inl ⟨by rfl, ?_⟩) (by assumption) ?_
  rotate_left
  ·intro w hSw
   (try dsimp only at hSw)
   go_simp
   (try with_reducible rfl)
  (try go_frame)
  refine wpAnyH_take (i := 3) (oi := _) (v := ?_) rfl (by kernel_rfl) (by kernel_rfl) (by kernel_rfl) (fun _ _ _ h => h) (Or.inl ⟨by rfl, ?_⟩) (by assumption) ?_
  rotate_left
  ·intro w hSw
   (try dsimp only at hSw)
   go_simp
   (try with_reducible rfl)
  (try go_frame)
  refine wpAnyH_take (i := 4) (oi := _) (v := ?_) rfl (by kernel_rfl) (by kernel_rfl) (by kernel_rfl) (fun _ _ _ h => h) (Or.inl ⟨by rfl, ?_⟩) (by assumption) ?_
  rotate_left
  ·intro w hSw
   (try dsimp only at hSw)
   go_simp
   (try with_reducible rfl)
  (try go_frame)
  refine wpAnyH_take (i := 5) (oi := _) (v := ?_) rfl (by kernel_rfl) (by kernel_rfl) (by kernel_rfl) (fun _ _ _ h => h) (Or.inl ⟨by rfl, ?_⟩) (by assumption) ?_
  rotate_left
  ·intro w hSw
   (try dsimp only at hSw)
   go_simp
   (try with_reducible rfl)
  (try go_frame)
  refine wpAnyH_ready (rs := [6]) (by kernel_rfl) (by simp) ?_
  refine AllReadyH.cons (o := _) rfl (fun K hK => ?_) AllReadyH.nil
  go_simp
  refine (fill_any c F top1 st1 f n row k hk _ (hide HF2.out.drew)).mono ?_
  rintro e w3 ⟨rfl, hg3, hF3⟩
  have HG3 : Hid (w.grownBy w3 (some F)) := grown_tr HG2.out (grown_drew hg3)
  have HF3 := hide hF3
  refine hK.out _ _ (by rw [← q2.2.1]; exact cell_eq (kept (grown_drew hg3) (by have := HG2.out.size; have := lt_of_block (kept (grown_tr HT1.out (grown_refl _ _)) (by simp) (by omega) |>.trans (alloc_at w _)); have := World.block_lt_of_cell? w2 _ q2.2.1; exact this) (by omega)) _) (fun hHeld => ?_)
  clear hK hg3 hF3
  refine wpAnyH_done (by kernel_rfl) ?_ _
  go_wp2
  go_end0
  exact SEnds.good HG3.out rfl HF3.out
theorem nn_of {a : Int} (h : 0 ≤ a) : ∃ k : Nat, a = k := ⟨a.toNat, by omega⟩
theorem ranged_is {m : Vf.Md} {u : Vf.Un} {a nn : Int} {op kd : Int} (h : Vf.formE m u ⟨op, a, nn⟩ = 0) (he : Vf.ranged m u ⟨op, a, nn⟩ = Vf.is m kd a) : ∃ (k : Nat) (x : Vf.Un), a = k ∧ m.units[k]? = some x ∧ x.kind = kd := by
 have h1 := (formE_zero h).2.2
 rw [he] at h1
 obtain ⟨x, h2, h3, h4⟩ := is_some h1
 exact ⟨a.toNat, x, by omega, h2, h3⟩
theorem ranged_lt {m : Vf.Md} {u : Vf.Un} {a nn : Int} {op : Int} {L : Nat} (h : Vf.formE m u ⟨op, a, nn⟩ = 0) (he : Vf.ranged m u ⟨op, a, nn⟩ = (decide (0 ≤ a) && decide (a < L))) : ∃ k : Nat, a = k ∧ k < L := by
 have h1 := (formE_zero h).2.2
 rw [he] at h1
 simp only [Bool.and_eq_true, decide_eq_true_eq] at h1
 exact ⟨a.toNat, by omega, by omega⟩
theorem Rt.pars {m : Vf.Md} (h : Rt m) {k : Nat} {u : Vf.Un} (hu : m.units[k]? = some u) : 0 ≤ u.params ∧ u.params ≤ u.locals.length ∧ u.locals.length ≤ 200 := by
 have := sized_true (headE_zero (h.heads k u hu).1).2.1
 exact ⟨this.2.1, this.2.2.1, this.1⟩
theorem speak_any (c : FC) (F B : Nat) (top : Option Addr) (st : List Int) (f : Vf.Fl) (n : Int) (row : Value) (op a nn : Int) (w : World) (h : Hid (FlIn c w F top st f n row)) (hE : Hid (Env c B F w)) (hl : st.length ≤ 300) (hgn : Hid (Gens c.m st)) (hR : Hid (Rt c.m)) (hfm : Hid (Vf.formE c.m c.u ⟨op, a, nn⟩ = 0))
  (hop : op = 21 ∨ op = 23 ∨ op = 24 ∨ op = 25 ∨ op = 26 ∨ op = 27 ∨ op = 29 ∨ op = 30 ∨ op = 31 ∨ op = 32) (r : Except Int (List Int)) (hr : Hid (r = Vf.speak c.m c.u ⟨op, a, nn⟩ st)) :
  Calls Tryz.prog 90 #[.pointer (some ⟨F, 0, none⟩), .agg #[.int .i64 op, .int .i64 a, .int .i64 nn]] w fun e w' => SEnds c F f n row r w e w' := by
 rcases hop with rfl | rfl | rfl | rfl | rfl | rfl | rfl | rfl | rfl | rfl
 ·exact speak21 c F B top st f n row a nn w h hE r (hide hr.out)
 ·obtain ⟨k, x, rfl, hx, _⟩ := ranged_is (kd := 2) hfm.out rfl
  exact speak23 c F B top st f n row nn k x (hide hx) (hide (hR.out.pars hx)) _ (hide rfl) w h hE hl r (hide (by rw [hr.out]; show Vf.turn (Vf.unit c.m (k : Int)).result ((Vf.unit c.m (k : Int)).locals.take (Vf.unit c.m (k : Int)).params.toNat) st = _; rw [unit_of hx]))
 ·exact speak24 c F B top st f n row a nn w h hE hl r (hide hr.out)
 ·exact speak25 c F B top st f n row a nn w h hE hl r (hide hr.out)
 ·obtain ⟨k, rfl, hk⟩ := ranged_lt (L := c.m.boxes.length) hfm.out rfl
  have hx := List.getElem?_eq_getElem hk
  exact speak26 c F B top st f n row nn k _ (hide hx) w h hE hl r (hide (by rw [hr.out]; show Vf.takeR [Vf.boxTy c.m (k : Int)] st = _; rw [box_of hx]))
 ·obtain ⟨k, rfl, hk⟩ := ranged_lt (L := c.m.boxes.length) hfm.out rfl
  have hx := List.getElem?_eq_getElem hk
  exact speak27 c F B top st f n row nn k _ (hide hx) w h hE hl r (hide (by rw [hr.out]; show Vf.put (Vf.boxTy c.m (k : Int)) st = _; rw [box_of hx]))
 ·obtain ⟨k, x, rfl, hx, _⟩ := ranged_is (kd := 3) hfm.out rfl
  exact speak29 c F B top st f n row nn k x (hide hx) (hide (hR.out.pars hx)) hR.out.units _ (hide rfl) w h hE hl r (hide (by rw [hr.out]; show Vf.turn (10 + (k : Int)) ((Vf.unit c.m (k : Int)).locals.take (Vf.unit c.m (k : Int)).params.toNat) st = _; rw [unit_of hx]))
 ·exact speak30 c F B top st f n row a nn hgn hR.out.units w h hE hl r (hide hr.out)
 ·exact speak31 c F B top st f n row a nn w h hE hl r (hide hr.out)
 ·exact speak32 c F B top st f n row a nn hgn hR.out.units w h hE hl r (hide hr.out)
theorem reckD (c : FC) (F B : Nat) (top : Option Addr) (st : List Int) (f : Vf.Fl) (n : Int) (row : Value) (op a nn : Int) (w : World) (h : Hid (FlIn c w F top st f n row)) (hE : Hid (Env c B F w)) (hl : st.length ≤ 300) (hgn : Hid (Gens c.m st)) (hR : Hid (Rt c.m)) (hfm : Hid (Vf.formE c.m c.u ⟨op, a, nn⟩ = 0))
  (hop : Hid (op = 21 ∨ op = 23 ∨ op = 24 ∨ op = 25 ∨ op = 26 ∨ op = 27 ∨ op = 29 ∨ op = 30 ∨ op = 31 ∨ op = 32)) (r : Except Int (List Int)) (hr : Hid (r = Vf.speak c.m c.u ⟨op, a, nn⟩ st)) :
  Calls Tryz.prog 67 #[.pointer (some ⟨F, 0, none⟩), .agg #[.int .i64 op, .int .i64 a, .int .i64 nn]] w fun e w' => SEnds c F f n row r w e w' := by
 have HF0 := hide (h.out.alloc (insO op a nn))
 have HG0 : Hid (w.grownBy (w.alloc (insO op a nn)) (some F)) := grown_new _
 have HE0 := hide (hE.out.grown HG0.out)
 have ne : ∀ k : Int, k ≠ 21 → k ≠ 23 → k ≠ 24 → k ≠ 25 → k ≠ 26 → k ≠ 27 → k ≠ 29 → k ≠ 30 → k ≠ 31 → k ≠ 32 → (op == k) = false := by
  intro k h1 h2 h3 h4 h5 h6 h7 h8 h9 h10
  have := hop.out
  simp
  omega
 have g1 : (op == 1) = false := ne 1 (by decide) (by decide) (by decide) (by decide) (by decide) (by decide) (by decide) (by decide) (by decide) (by decide)
 have g2 : (op == 2) = false := ne 2 (by decide) (by decide) (by decide) (by decide) (by decide) (by decide) (by decide) (by decide) (by decide) (by decide)
 have g3 : (op == 3) = false := ne 3 (by decide) (by decide) (by decide) (by decide) (by decide) (by decide) (by decide) (by decide) (by decide) (by decide)
 have g4 : (op == 4) = false := ne 4 (by decide) (by decide) (by decide) (by decide) (by decide) (by decide) (by decide) (by decide) (by decide) (by decide)
 have g5 : (op == 5) = false := ne 5 (by decide) (by decide) (by decide) (by decide) (by decide) (by decide) (by decide) (by decide) (by decide) (by decide)
 have g6 : (op == 6) = false := ne 6 (by decide) (by decide) (by decide) (by decide) (by decide) (by decide) (by decide) (by decide) (by decide) (by decide)
 have g7 : (op == 7) = false := ne 7 (by decide) (by decide) (by decide) (by decide) (by decide) (by decide) (by decide) (by decide) (by decide) (by decide)
 have g8 : (op == 8) = false := ne 8 (by decide) (by decide) (by decide) (by decide) (by decide) (by decide) (by decide) (by decide) (by decide) (by decide)
 have g9 : (op == 9) = false := ne 9 (by decide) (by decide) (by decide) (by decide) (by decide) (by decide) (by decide) (by decide) (by decide) (by decide)
 have g10 : (op == 10) = false := ne 10 (by decide) (by decide) (by decide) (by decide) (by decide) (by decide) (by decide) (by decide) (by decide) (by decide)
 have g11 : (op == 11) = false := ne 11 (by decide) (by decide) (by decide) (by decide) (by decide) (by decide) (by decide) (by decide) (by decide) (by decide)
 have g12 : (op == 12) = false := ne 12 (by decide) (by decide) (by decide) (by decide) (by decide) (by decide) (by decide) (by decide) (by decide) (by decide)
 have g15 : (op == 15) = false := ne 15 (by decide) (by decide) (by decide) (by decide) (by decide) (by decide) (by decide) (by decide) (by decide) (by decide)
 have g16 : (op == 16) = false := ne 16 (by decide) (by decide) (by decide) (by decide) (by decide) (by decide) (by decide) (by decide) (by decide) (by decide)
 have g17 : (op == 17) = false := ne 17 (by decide) (by decide) (by decide) (by decide) (by decide) (by decide) (by decide) (by decide) (by decide) (by decide)
 have g18 : (op == 18) = false := ne 18 (by decide) (by decide) (by decide) (by decide) (by decide) (by decide) (by decide) (by decide) (by decide) (by decide)
 have g19 : (op == 19) = false := ne 19 (by decide) (by decide) (by decide) (by decide) (by decide) (by decide) (by decide) (by decide) (by decide) (by decide)
 have g20 : (op == 20) = false := ne 20 (by decide) (by decide) (by decide) (by decide) (by decide) (by decide) (by decide) (by decide) (by decide) (by decide)
 have g13 : (op == 13) = false := ne 13 (by decide) (by decide) (by decide) (by decide) (by decide) (by decide) (by decide) (by decide) (by decide) (by decide)
 have g14 : (op == 14) = false := ne 14 (by decide) (by decide) (by decide) (by decide) (by decide) (by decide) (by decide) (by decide) (by decide) (by decide)
 have g28 : (op == 28) = false := ne 28 (by decide) (by decide) (by decide) (by decide) (by decide) (by decide) (by decide) (by decide) (by decide) (by decide)
 have g22 : (op == 22) = false := ne 22 (by decide) (by decide) (by decide) (by decide) (by decide) (by decide) (by decide) (by decide) (by decide) (by decide)
 clear ne
 go_enter Tryz.func67, Tryz.ntmps67
 go_wp2_with fail
 refine (speak_any c F B top st f n row op a nn _ HF0 HE0 hl hgn hR hfm hop.out r hr).mono ?_
 rintro e w9 hS
 have HG9 : Hid (w.grownBy w9 (some F)) := grown_tr HG0.out hS.grown
 cases r with
 | error er =>
  obtain rfl := hS.no er rfl
  clear hS
  go_wp2
  exact ⟨rfl, SEnds.bad HG9.out rfl⟩
 | ok st9 =>
  obtain ⟨rfl, top9, hF9⟩ := hS.yes st9 rfl
  have HF9 := hide hF9
  clear hS hF9
  go_wp2
  go_end0
  exact SEnds.good HG9.out rfl HF9.out
theorem reckon_any (c : FC) (F B : Nat) (top : Option Addr) (st : List Int) (f : Vf.Fl) (n : Int) (row : Value) (op a nn : Int) (w : World) (h : Hid (FlIn c w F top st f n row)) (hE : Hid (Env c B F w)) (hl : st.length ≤ 300) (hgn : Hid (Gens c.m st)) (hR : Hid (Rt c.m)) (hfm : Hid (Vf.formE c.m c.u ⟨op, a, nn⟩ = 0)) (hlo : c.u.locals.length ≤ 200)
  (r : Except Int (List Int)) (hr : Hid (r = Vf.reckS c.m c.u ⟨op, a, nn⟩ ⟨st, f⟩)) :
  Calls Tryz.prog 67 #[.pointer (some ⟨F, 0, none⟩), .agg #[.int .i64 op, .int .i64 a, .int .i64 nn]] w fun e w' => SEnds c F (Vf.reckF ⟨op, a, nn⟩ f) n row r w e w' := by
 obtain ⟨h1, h2, _⟩ := formE_zero hfm.out
 have h1' : 1 ≤ op := h1
 have h2' : op ≤ 32 := h2
 rcases (by omega : op = 1 ∨ op = 2 ∨ op = 3 ∨ op = 4 ∨ op = 5 ∨ op = 6 ∨ op = 7 ∨ op = 8 ∨ op = 9 ∨ op = 10 ∨ op = 11 ∨ op = 12 ∨ op = 13 ∨ op = 14 ∨ op = 15 ∨ op = 16 ∨ op = 17 ∨ op = 18 ∨ op = 19 ∨ op = 20 ∨ op = 21 ∨ op = 22 ∨ op = 23 ∨ op = 24 ∨ op = 25 ∨ op = 26 ∨ op = 27 ∨ op = 28 ∨ op = 29 ∨ op = 30 ∨ op = 31 ∨ op = 32) with rfl | rfl | rfl | rfl | rfl | rfl | rfl | rfl | rfl | rfl | rfl | rfl | rfl | rfl | rfl | rfl | rfl | rfl | rfl | rfl | rfl | rfl | rfl | rfl | rfl | rfl | rfl | rfl | rfl | rfl | rfl | rfl
 ·exact reck1 c F B top st f n row a nn w h hE hl r (hide hr.out)
 ·exact reck2 c F B top st f n row a nn w h hE hl r (hide hr.out)
 ·obtain ⟨k, rfl, hk⟩ := ranged_lt (L := c.u.locals.length) hfm.out rfl
  have hx := List.getElem?_eq_getElem hk
  exact reck3 c F B top st f n row nn k _ (hide hx) (by omega) w h hE hl r (hide (by rw [hr.out]; show Vf.andThen (Vf.must (f.has (k : Int).toNat) 11 st) (Vf.put (Vf.localTy c.u (k : Int))) = _; rw [local_of hx]; rfl))
 ·obtain ⟨k, rfl, hk⟩ := ranged_lt (L := c.u.locals.length) hfm.out rfl
  have hx := List.getElem?_eq_getElem hk
  exact reck4 c F B top st f n row nn k _ (hide hx) (by omega) w h hE hl r (hide (by rw [hr.out]; show Vf.takeR [Vf.localTy c.u (k : Int)] st = _; rw [local_of hx]))
 ·exact reck5 c F B top st f n row a nn w h hE hl r (hide hr.out)
 ·exact reck6 c F B top st f n row a nn w h hE hl r (hide hr.out)
 ·exact reck7 c F B top st f n row a nn w h hE hl r (hide hr.out)
 ·exact reck8 c F B top st f n row a nn w h hE hl r (hide hr.out)
 ·exact reck9 c F B top st f n row a nn w h hE hl r (hide hr.out)
 ·exact reck10 c F B top st f n row a nn w h hE hl r (hide hr.out)
 ·exact reck11 c F B top st f n row a nn w h hE hl r (hide hr.out)
 ·exact reck12 c F B top st f n row a nn w h hE hl r (hide hr.out)
 ·exact reck13 c F B top st f n row a nn w h hE hl r (hide hr.out)
 ·exact reck14 c F B top st f n row a nn w h hE hl r (hide hr.out)
 ·exact reck15 c F B top st f n row a nn w h hE hl r (hide hr.out)
 ·exact reck16 c F B top st f n row a nn w h hE hl r (hide hr.out)
 ·exact reck17 c F B top st f n row a nn w h hE hl r (hide hr.out)
 ·exact reck18 c F B top st f n row a nn w h hE hl r (hide hr.out)
 ·exact reck19 c F B top st f n row a nn w h hE hl r (hide hr.out)
 ·exact reck20 c F B top st f n row a nn w h hE hl r (hide hr.out)
 ·exact reckD c F B top st f n row 21 a nn w h hE hl hgn hR hfm (hide (by decide)) r (hide hr.out)
 ·exact reck22 c F B top st f n row a nn w h hE hl r (hide hr.out)
 ·exact reckD c F B top st f n row 23 a nn w h hE hl hgn hR hfm (hide (by decide)) r (hide hr.out)
 ·exact reckD c F B top st f n row 24 a nn w h hE hl hgn hR hfm (hide (by decide)) r (hide hr.out)
 ·exact reckD c F B top st f n row 25 a nn w h hE hl hgn hR hfm (hide (by decide)) r (hide hr.out)
 ·exact reckD c F B top st f n row 26 a nn w h hE hl hgn hR hfm (hide (by decide)) r (hide hr.out)
 ·exact reckD c F B top st f n row 27 a nn w h hE hl hgn hR hfm (hide (by decide)) r (hide hr.out)
 ·exact reck28 c F B top st f n row a nn w h hE hl r (hide hr.out)
 ·exact reckD c F B top st f n row 29 a nn w h hE hl hgn hR hfm (hide (by decide)) r (hide hr.out)
 ·exact reckD c F B top st f n row 30 a nn w h hE hl hgn hR hfm (hide (by decide)) r (hide hr.out)
 ·exact reckD c F B top st f n row 31 a nn w h hE hl hgn hR hfm (hide (by decide)) r (hide hr.out)
 ·exact reckD c F B top st f n row 32 a nn w h hE hl hgn hR hfm (hide (by decide)) r (hide hr.out)
end Go.Proofs.YtekjhefmhhcboaaGreat
