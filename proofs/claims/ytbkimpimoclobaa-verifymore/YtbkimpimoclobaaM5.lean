/- The walks of plain, take, turn, takePlain, takeStarted, params, resume. -/
import Derived.Test.YtbkimpimoclobaaM4
namespace Go.Proofs.Ytbkimpimoclobaa
open Go.RowKit

set_option maxHeartbeats 400000 in
theorem plain_any (t : Int) (w : World) (b : Bool) (hb : Hid (b = Vf.plain t)) :
    Calls Try.prog 20 #[.int .i64 t] w fun e w' => e = .returned (.bool b) ∧ w' = w := by
  rw [hb.out]
  unfold Vf.plain
  clear hb
  by_cases h1 : t = 1
  · have e1 : (t == 1) = true := by simpa using h1
    go_enter Try.func20, Try.ntmps20
    go_wp2
    go_ret
    rw [e1]
    exact ⟨rfl, rfl⟩
  · have e1 : (t == 1) = false := by simpa using h1
    go_enter Try.func20, Try.ntmps20
    go_wp2
    go_ret
    rw [e1]
    exact ⟨rfl, rfl⟩

/-- Of the types l those below i are still to be taken. -/
structure TkAt (c : FC) (F : Nat) (f : Vf.Fl) (n : Int) (row : Value) (l : List Int) (r : Except Int (List Int)) (w : World) (i : Nat) (W : World) : Prop where
  le : i ≤ l.length
  grown : w.grownBy W (some F)
  fl : ∃ top st, FlIn c W F top st f n row ∧ st.length < 1000 ∧ r = Vf.takeR (l.take i).reverse st

theorem TkAt.mk' {c : FC} {F : Nat} {f : Vf.Fl} {n : Int} {row : Value} {l : List Int} {r : Except Int (List Int)} {w W : World} {i : Nat} {top : Option Addr} {st : List Int} (h1 : i ≤ l.length) (h2 : w.grownBy W (some F)) (h3 : FlIn c W F top st f n row) (h4 : st.length < 1000) (h5 : r = Vf.takeR (l.take i).reverse st) : TkAt c F f n row l r w i W := ⟨h1, h2, top, st, h3, h4, h5⟩

theorem take_succ_rev {l : List Int} {i : Nat} {x : Int} (h : l[i]? = some x) : (l.take (i + 1)).reverse = x :: (l.take i).reverse := by
  obtain ⟨hi, rfl⟩ := List.getElem?_eq_some_iff.1 h
  rw [List.take_succ_eq_append_getElem hi]
  simp
theorem IntsIn.cell {B : Nat} {w : World} {l : List Int} {a : Option Addr} (h : IntsIn B w l a) {i : Nat} {x : Int} (hx : l[i]? = some x) : ∃ b off, a = some ⟨b, off, none⟩ ∧ b < B ∧ w.cell? ⟨b, off + i, none⟩ = some (.int .i64 x) := (h i x hx).2


set_option maxRecDepth 100000 in
set_option maxHeartbeats 2000000 in
theorem take_any (c : FC) (F B : Nat) (top : Option Addr) (st : List Int) (f : Vf.Fl) (n : Int) (row : Value) (l : List Int) (a : Option Addr) (cp : Nat) (w : World) (h : Hid (FlIn c w F top st f n row)) (hl : st.length < 1000) (hll : l.length < 1000) (hin : Hid (IntsIn B w l a)) (hB : B ≤ w.heap.size) (hFB : Hid (∀ b off, a = some ⟨b, off, none⟩ → b < B → b ≠ F)) (r : Except Int (List Int)) (hr : Hid (r = Vf.takeR l.reverse st)) :
    Calls Try.prog 54 #[.pointer (some ⟨F, 0, none⟩), .slice a l.length cp] w fun e w' => SEnds c F f n row r w e w' := by
  go_enter Try.func54, Try.ntmps54
  go_wp2
  go_loopw [4] (fun v wr => ∃ i : Nat, v = .int .i64 ((i : Int) - 1) ∧ TkAt c F f n row l r w i wr) (fun v _ => (intOf v + 1).toNat)
  case atStart => exact ⟨l.length, by go_num, TkAt.mk' (Nat.le_refl _) (grown_refl _ _) h.out hl (by rw [List.take_length]; exact hr.out)⟩
  case round =>
    obtain ⟨i, rfl, hA⟩ := hrel
    obtain ⟨hle, hg, top1, st1, hF, hl1, hr1⟩ := hA
    have HG := hide hg
    have HF := hide hF
    have HR1 := hide hr1
    clear hg hF hr1
    by_cases hi : i = 0
    · subst hi
      have HE : Hid (r = .ok st1) := by unfold Hid; rw [HR1.out]; simp [Vf.takeR]
      have hd : decide ((0 : Int) ≤ ((0 : Nat) : Int) - 1) = false := by decide
      go_wp2
      go_end0
      exact SEnds.good HG.out HE.out HF.out
    · obtain ⟨j, rfl⟩ : ∃ j, i = j + 1 := ⟨i - 1, by omega⟩
      obtain ⟨x, hx⟩ : ∃ x, l[j]? = some x := ⟨_, List.getElem?_eq_getElem (by omega)⟩
      have hlow : ∀ b, b < B → b ≠ F → wr.heap[b]? = w.heap[b]? := fun b hb hne => HG.out.block b (by omega) (by simp; omega)
      obtain ⟨b, off, ha, hb, cx0⟩ := hin.out.cell hx
      have hbF := hFB.out b off ha hb
      have cx : wr.cell? ⟨b, off + j, none⟩ = some (.int .i64 x) := (cell_eq (hlow b hb hbF) _).trans cx0
      subst ha
      have HRx : Hid (r = Vf.takeR (x :: (l.take j).reverse) st1) := by unfold Hid; rw [HR1.out, take_succ_rev hx]
      have HX := hide hx
      have HL := hide hlow
      have ez : (((j + 1 : Nat) : Int) - 1) = (j : Int) := by omega
      rw [ez]
      have hd : decide ((0 : Int) ≤ (j : Int)) = true := by simp
      have hj1 : (j : Int) < (l.length : Int) := by omega
      clear cx0 HR1 hx hlow ez
      go_wp2_with fail
      refine wp_region_held_drew (S := fun w' => w'.cell? ⟨b, off + j, none⟩ = some (.int .i64 x)) (by kernel_rfl) cx (fun hHeld => ?_)
      refine wpAnyH_take (i := 0) (oi := _) (v := ?_) rfl (by kernel_rfl) (by kernel_rfl) (by kernel_rfl) (fun _ _ _ h => h) (Or.inl ⟨by rfl, ?_⟩) (by assumption) ?_
      rotate_left
      · intro w hSw
        (try dsimp only at hSw)
        go_simp
        (try with_reducible rfl)
      refine wpAnyH_take (i := 1) (oi := _) (v := ?_) rfl (by kernel_rfl) (by kernel_rfl) (by kernel_rfl) (fun _ _ _ h => h) (Or.inl ⟨by rfl, ?_⟩) (by assumption) ?_
      rotate_left
      · intro w hSw
        (try dsimp only at hSw)
        go_simp
        (try with_reducible rfl)
      refine wpAnyH_take (i := 3) (oi := _) (v := ?_) rfl (by kernel_rfl) (by kernel_rfl) (by kernel_rfl) (fun _ _ _ h => h) (Or.inl ⟨by rfl, ?_⟩) (by assumption) ?_
      rotate_left
      · intro w hSw
        (try dsimp only at hSw)
        go_simp
        (try with_reducible rfl)
      refine wpAnyH_take (i := 4) (oi := _) (v := ?_) rfl (by kernel_rfl) (by kernel_rfl) (by kernel_rfl) (fun _ _ _ h => h) (Or.inl ⟨by rfl, ?_⟩) (by assumption) ?_
      rotate_left
      · intro w hSw
        (try dsimp only at hSw)
        go_simp
        (try with_reducible rfl)
      refine wpAnyH_take (i := 5) (oi := _) (v := ?_) rfl (by kernel_rfl) (by kernel_rfl) (by kernel_rfl) (fun _ _ _ h => h) (Or.inl ⟨by rfl, ?_⟩) (by assumption) ?_
      rotate_left
      · intro w hSw
        (try dsimp only at hSw)
        go_simp
        (try with_reducible rfl)
      refine wpAnyH_take (i := 6) (oi := _) (v := ?_) rfl (by kernel_rfl) (by kernel_rfl) (by kernel_rfl) (fun _ _ _ h => h) (Or.inl ⟨by rfl, ?_⟩) (by assumption) ?_
      rotate_left
      · intro w hSw
        (try dsimp only at hSw)
        go_simp
        (try with_reducible rfl)
      refine wpAnyH_ready (rs := [2]) (by kernel_rfl) (by simp) ?_
      refine AllReadyH.cons (o := _) rfl (fun K hK => ?_) AllReadyH.nil
      go_simp
      refine (takeOne_any c F top1 st1 f n row _ (hide HF.out.drew) hl1 (Vf.pop st1) (hide rfl)).mono ?_
      rintro e w2 hV
      have HG2 : Hid (w.grownBy w2 (some F)) := grown_tr HG.out (grown_drew hV.grown)
      cases st1 with
      | nil =>
        obtain rfl := hV.no 12 rfl
        have HE : Hid (r = .error 12) := HRx.out
        clear hV hK
        go_wp2
        exact ⟨rfl, SEnds.bad HG2.out HE.out⟩
      | cons y st2 =>
        obtain ⟨rfl, top2, hF2⟩ := hV.yes y st2 rfl
        have HF2 := hide hF2
        have hl2 : st2.length < 1000 := by simp at hl1; omega
        have c14 := (fl_cells4 hF2.blk).1
        have cx2 : w2.cell? ⟨b, off + j, none⟩ = some (.int .i64 x) := by
          rw [← cx]
          exact cell_eq ((grown_drew hV.grown).block b (by have := HG.out.size; omega) (by simp; omega)) _
        clear hV hF2
        refine hK.out _ _ cx2 (fun hHeld => ?_)
        clear hK
        refine wpAnyH_take (i := 7) (oi := _) (v := ?_) rfl (by kernel_rfl) (by kernel_rfl) (by kernel_rfl) (fun _ _ _ h => h) (Or.inl ⟨by rfl, ?_⟩) (by assumption) ?_
        rotate_left
        · intro w hSw
          (try dsimp only at hSw)
          go_simp
          (try with_reducible rfl)
        refine wpAnyH_ready (rs := [8]) (by kernel_rfl) (by simp) ?_
        refine AllReadyH.cons (o := _) rfl (fun K hK => ?_) AllReadyH.nil
        go_simp
        by_cases hyx : y = x
        · have e1 : (y == x) = true := by simpa using hyx
          rw [e1]
          have HRy : Hid (r = Vf.takeR (l.take j).reverse st2) := by unfold Hid; rw [HRx.out, Vf.takeR, if_pos hyx]
          refine (must_any F true 9 n _ c14).mono ?_
          rintro e w3 ⟨he, rfl⟩
          obtain rfl : e = .returned (.tuple #[]) := he
          refine hK.out _ _ cx2 (fun hHeld => ?_)
          clear hK
          refine wpAnyH_done (by kernel_rfl) ?_ _
          go_wp2
          go_roundw
          case rel => exact ⟨j, by go_num, TkAt.mk' (by omega) HG2.out HF2.out hl2 HRy.out⟩
          case measure => simp [intOf]
        · have e1 : (y == x) = false := by simpa using hyx
          rw [e1]
          have HE : Hid (r = .error 9) := by unfold Hid; rw [HRx.out, Vf.takeR, if_neg hyx]
          refine (must_any F false 9 n _ c14).mono ?_
          rintro e w3 ⟨he, rfl⟩
          obtain rfl : e = .panicked [fltE 9 n] := he
          clear hK
          go_wp2
          exact ⟨rfl, SEnds.bad HG2.out HE.out⟩

theorem ints_new {q B : Nat} {w : World} {l : List Int} {fr : Nat × Nat} (hq : w.heap[q]? = some (.cells (l.map (Value.int .i64)).toArray 3 fr)) (hB : q < B) (h64 : ∀ x ∈ l, I64 x) : IntsIn B w l (some ⟨q, 0, none⟩) := fun i x hx => by
  refine ⟨h64 x (List.mem_of_getElem? hx), q, 0, rfl, hB, ?_⟩
  simp [World.cell?, hq, hx]

set_option maxHeartbeats 1000000 in
theorem turn_any (c : FC) (F B : Nat) (top : Option Addr) (st : List Int) (f : Vf.Fl) (n : Int) (row : Value) (t : Int) (l : List Int) (a : Option Addr) (cp : Nat) (w : World) (h : Hid (FlIn c w F top st f n row)) (hl : st.length < 900) (hll : l.length < 1000) (hin : Hid (IntsIn B w l a)) (hB : B ≤ w.heap.size) (hFB : Hid (∀ b off, a = some ⟨b, off, none⟩ → b < B → b ≠ F)) (r : Except Int (List Int)) (hr : Hid (r = Vf.turn t l st)) :
    Calls Try.prog 56 #[.pointer (some ⟨F, 0, none⟩), .int .i64 t, .slice a l.length cp] w fun e w' => SEnds c F f n row r w e w' := by
  obtain ⟨r1, hr1⟩ : ∃ r1, r1 = Vf.takeR l.reverse st := ⟨_, rfl⟩
  have HR1 := hide hr1
  have HR : Hid (r = Vf.andThen r1 (Vf.put t)) := by unfold Hid; rw [hr.out, hr1]; rfl
  have HL1 : Hid (∀ st', r1 = .ok st' → st'.length < 1000) := fun st' e => by
    have : ∀ (ts st st' : List Int), Vf.takeR ts st = .ok st' → st'.length ≤ st.length := by
      intro ts
      induction ts with
      | nil => intro st st' e; cases e; exact Nat.le_refl _
      | cons t ts ih =>
        intro st st' e
        cases st with
        | nil => cases e
        | cons x st =>
          unfold Vf.takeR at e
          split at e
          · have := ih _ _ e; simp; omega
          · cases e
    have := this _ _ _ (hr1.symm.trans e)
    omega
  clear hr hr1
  go_enter Try.func56, Try.ntmps56
  go_wp2_with fail
  refine (take_any c F B top st f n row l a cp _ h (by omega) hll hin hB hFB r1 HR1).mono ?_
  rintro e w1 hS
  cases r1 with
  | error er =>
    obtain rfl := hS.no er rfl
    have HG := hide hS.grown
    have HE : Hid (r = .error er) := HR.out
    clear hS
    go_wp2
    exact ⟨rfl, SEnds.bad HG.out HE.out⟩
  | ok st1 =>
    obtain ⟨rfl, top1, hF1⟩ := hS.yes st1 rfl
    have HG := hide hS.grown
    have HF1 := hide hF1
    have hl1 := HL1.out st1 rfl
    clear hS hF1
    go_wp2_with fail
    refine (put_any c F top1 st1 f n row t _ HF1 hl1 r HR).mono ?_
    rintro e w2 hS
    have HG2 : Hid (w.grownBy w2 (some F)) := grown_tr HG.out hS.grown
    cases r with
    | error er =>
      obtain rfl := hS.no er rfl
      clear hS
      go_wp2
      exact ⟨rfl, SEnds.bad HG2.out rfl⟩
    | ok st2 =>
      obtain ⟨rfl, top2, hF2⟩ := hS.yes st2 rfl
      have HF2 := hide hF2
      clear hS hF2
      go_wp2
      go_end0
      exact SEnds.good HG2.out rfl HF2.out

set_option maxHeartbeats 1000000 in
theorem takePlain_any (c : FC) (F : Nat) (top : Option Addr) (st : List Int) (f : Vf.Fl) (n : Int) (row : Value) (w : World) (h : Hid (FlIn c w F top st f n row)) (hl : st.length < 1000) (r : Except Int (Int × List Int)) (hr : Hid (r = Vf.popPlain st)) :
    Calls Try.prog 57 #[.pointer (some ⟨F, 0, none⟩)] w fun e w' => VEnds c F f n row r w e w' := by
  go_enter Try.func57, Try.ntmps57
  go_wp2_with fail
  refine (takeOne_any c F top st f n row _ h hl (Vf.pop st) (hide rfl)).mono ?_
  rintro e w1 hV
  have HG := hide hV.grown
  cases st with
  | nil =>
    obtain rfl := hV.no 12 rfl
    have HE : Hid (r = .error 12) := hr.out
    clear hV
    go_wp2
    exact ⟨rfl, VEnds.bad HG.out HE.out⟩
  | cons t st1 =>
    obtain ⟨rfl, top1, hF1⟩ := hV.yes t st1 rfl
    have HF1 := hide hF1
    have c14 := (fl_cells4 hF1.blk).1
    have HR : Hid (r = if Vf.plain t = true then .ok (t, st1) else .error 9) := hr.out
    obtain ⟨b, hb⟩ : ∃ b, b = Vf.plain t := ⟨_, rfl⟩
    rw [← hb] at HR
    have HB := hide hb
    clear hV hF1 hb hr
    go_wp2_with fail
    refine (plain_any t _ b HB).mono ?_
    rintro e w2 ⟨rfl, rfl⟩
    go_wp2_with fail
    refine (must_any F b 9 n _ c14).mono ?_
    rintro e w3 ⟨he, rfl⟩
    cases b
    · obtain rfl : e = .panicked [fltE 9 n] := he
      have HE : Hid (r = .error 9) := HR.out
      clear c14
      go_wp2
      exact ⟨rfl, VEnds.bad HG.out HE.out⟩
    · obtain rfl : e = .returned (.tuple #[]) := he
      have HE : Hid (r = .ok (t, st1)) := HR.out
      clear c14
      go_wp2
      go_ret
      exact VEnds.good HG.out HE.out HF1.out

end Go.Proofs.Ytbkimpimoclobaa

