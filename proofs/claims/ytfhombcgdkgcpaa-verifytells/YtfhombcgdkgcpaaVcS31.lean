/- The document's answer, chapter 7, walked: WHAT ITS Code ANSWERS. -/
import Derived.Test.YtfhombcgdkgcpaaVcS30
namespace Go.Proofs.Ytfhombcgdkgcpaa
open Go.RowKit

set_option maxRecDepth 1000000 in
set_option maxHeartbeats 8000000 in
theorem rcode_any (c : FC) (B kk bu ou : Nat) (w : World) (hmd : Hid (ModIn B w c.m c.ab c.au)) (hB : B ≤ w.heap.size) (hu : Hid (c.m.units[kk]? = some c.u)) (hau : Hid (c.au = some ⟨bu, ou, none⟩)) (hbu : bu < B) (hun : Hid (UnIn B w c.u c.al c.ac c.cl c.cc))
    (u0 : w.cell? ⟨bu, ou + kk * 6, none⟩ = some (.int .i64 c.u.kind)) (u1 : w.cell? ⟨bu, ou + kk * 6 + 1, none⟩ = some (.int .i64 c.u.params)) (u2 : w.cell? ⟨bu, ou + kk * 6 + 2, none⟩ = some (.slice c.al c.u.locals.length c.cl)) (u3 : w.cell? ⟨bu, ou + kk * 6 + 3, none⟩ = some (.int .i64 c.u.result)) (u4 : w.cell? ⟨bu, ou + kk * 6 + 4, none⟩ = some (.int .i64 c.u.takes)) (u5 : w.cell? ⟨bu, ou + kk * 6 + 5, none⟩ = some (.slice c.ac c.u.code.length c.cc))
    (hR : Hid (Rt c.m)) (er un num : Int) (hr : Hid ((er, num) = ((Vf.flowF c.m c.u).1, ((Vf.flowF c.m c.u).2 : Int)))) (hun2 : Hid (un = if er = 0 then 0 else (kk : Int))) :
    Calls Try.prog 18 #[mdV c.m c.ab c.au c.cb c.cu, .int .i64 (kk : Int)] w fun e w' => e = .returned (whV er un num) ∧ w.grownBy w' none := by
  have hmf : ∀ (fn : Fn) (first cap : Array Value) (w : World), (Instr.makeFunc fn first cap).run Try.prog w = .ok (.func fn first cap) w := fun _ _ _ _ => rfl
  have hhead := (hR.out.heads kk c.u hu.out).1
  have HFO : Hid (Vf.Forms c.m c.u) := (hR.out.heads kk c.u hu.out).2
  have HHD := hide hhead
  obtain ⟨hz1, hz2, hz3, hz4, hz5, hz6⟩ := sized_true (headE_zero hhead).2.1
  have hmk1 : ∀ w : World, (Instr.makeSlice 72 (.int .i64 (c.u.code.length : Int)) (.int .i64 (c.u.code.length : Int))).run Try.prog w = .ok (.slice (some ⟨w.heap.size, 0, none⟩) c.u.code.length c.u.code.length) (w.alloc (seO c.u.code.length)) := fun w => by
    obtain ⟨i0, hi, z0, z1, z2⟩ := info_parts Try.infoseen
    have := run_makeSlice (P := Try.prog) w 72 75 i0 _ Try.underlying72 hi z0 .i64 .i64 (c.u.code.length : Int) (c.u.code.length : Int) (by omega) (Int.le_refl _) (by rw [z1]; simp; omega) (by rw [z2]; omega) (by omega)
    rw [z1, Int.toNat_natCast] at this
    exact this
  have hmk2 : ∀ w : World, (Instr.makeSlice 73 (.int .i64 (c.u.locals.length : Int)) (.int .i64 (c.u.locals.length : Int))).run Try.prog w = .ok (.slice (some ⟨w.heap.size, 0, none⟩) c.u.locals.length c.u.locals.length) (w.alloc (haO c.u.locals.length)) := fun w => by
    obtain ⟨i0, hi, z0, z1, z2⟩ := info_parts Try.infobool
    have := run_makeSlice (P := Try.prog) w 73 4 i0 _ Try.underlying73 hi z0 .i64 .i64 (c.u.locals.length : Int) (c.u.locals.length : Int) (by omega) (Int.le_refl _) (by rw [z1]; simp; omega) (by rw [z2]; omega) (by omega)
    rw [z1, Int.toNat_natCast] at this
    exact this
  have hk1 : (kk : Int) < (c.m.units.length : Int) := by have := (List.getElem?_eq_some_iff.1 hu.out).1; omega
  have hbw : bu < w.heap.size := by omega
  have hbw1 : bu < w.heap.size + 1 := by omega
  have hbw2 : bu < w.heap.size + 1 + 1 := by omega
  clear hhead
  obtain ⟨W5, hW5⟩ : ∃ W5 : World, ((((w.alloc (amO c.m c.ab c.au c.cb c.cu)).alloc (kO kk)).alloc whZ).alloc (unO c.u c.al c.ac c.cl c.cc)).alloc (seO c.u.code.length) = W5 := ⟨_, rfl⟩
  have hs5 : W5.heap.size = w.heap.size + 1 + 1 + 1 + 1 + 1 := by rw [← hW5]; simp
  have HC5 : Hid (CdAt c kk w W5) := by
    rw [← hW5]
    refine CdAt.new ⟨grown0_new (grown0_new (two_new _ _ _) _) _, ?_, ?_, ?_, ?_⟩ _
    · exact (Below.heap_alloc _ _ _ (by simp; omega)).trans ((Below.heap_alloc _ _ _ (by simp; omega)).trans ((Below.heap_alloc _ _ _ (by simp)).trans (heap_alloc_new w _)))
    · exact (Below.heap_alloc _ _ _ (by simp)).trans ((Below.heap_alloc _ _ _ (by simp)).trans (new1 _ _ _))
    · exact (Below.heap_alloc _ _ _ (by simp)).trans (new2 _ _ _ _)
    · have e : (((w.alloc (amO c.m c.ab c.au c.cb c.cu)).alloc (kO kk)).alloc whZ).heap.size = w.heap.size + 1 + 1 + 1 := by simp
      rw [← e]
      exact heap_alloc_new _ _
  have HS5 : Hid (SeAt (w.heap.size + 1 + 1 + 1 + 1) c.u.locals.length c.u.code.length (w.heap.size + 1 + 1 + 1 + 1) (fun _ => none) none W5) := by
    refine SeAt.start ?_
    have e : ((((w.alloc (amO c.m c.ab c.au c.cb c.cu)).alloc (kO kk)).alloc whZ).alloc (unO c.u c.al c.ac c.cl c.cc)).heap.size = w.heap.size + 1 + 1 + 1 + 1 := by simp
    rw [← hW5, ← e]
    exact heap_alloc_new _ _
  have HW5 := hide hW5
  have HZ5 := hide hs5
  clear hs5 hW5
  go_enter Try.func18, Try.ntmps18
  rw [hau.out]
  go_wp2_with fail
  rw [← hau.out]
  go_loopw [8] (fun v wr => ∃ k : Nat, v = .int .i64 k ∧ (k : Int) ≤ c.u.params ∧ W5.grownBy wr none ∧ BR wr (w.heap.size + 1 + 1 + 1 + 1 + 1) (.slice (some ⟨w.heap.size + 1 + 1 + 1 + 1 + 1, 0, none⟩) c.u.locals.length c.u.locals.length) (Vf.bl c.u.locals.length (Vf.Fl.first k))) (fun v _ => c.u.params.toNat - (intOf v).toNat)
  case atStart =>
    refine ⟨0, rfl, hz2, ?_, ?_⟩
    · rw [HW5.out]
      exact grown0_new (World.grownBy.refl _ _) _
    · rw [HW5.out]
      exact br_start (by rw [← HZ5.out]; exact heap_alloc_new _ _) hz1
  case round =>
    obtain ⟨k, rfl, hkp, hg, hbr⟩ := hrel
    have HG := hide hg
    have HBR := hide hbr
    have hub := (HC5.out.next hg).ub
    have q1 := (un_cells2 hub).2.1
    have hl := (HC5.out.next hg).lt
    clear hg hbr hub
    by_cases hk : (k : Int) < c.u.params
    · have hd : decide ((k : Int) < c.u.params) = true := by simpa using hk
      obtain ⟨hc, hf, _, hgl⟩ := br_at HBR.out (x := k) (b := (Vf.Fl.first k).has k) (Vf.bl_at _ (by omega))
      have hkn : (k : Int) < (c.u.locals.length : Int) := by omega
      go_wp2
      go_roundw
      case rel =>
        refine ⟨k + 1, by go_num, by omega, grown0_setN HG.out (by rw [HZ5.out]; exact Nat.le_refl _) _ _, ?_⟩
        have h1 := br_set2 (x := k) HBR.out (Vf.bl_len _ _) true
        rw [← Vf.bl_fill _ hz1] at h1
        exact h1
      case measure => simp [intOf]; omega
    · have hd : decide ((k : Int) < c.u.params) = false := by simpa using hk
      have hkp2 : (k : Int) = c.u.params := by omega
      have HST : Hid (Vf.cm c.u.locals.length (Vf.start c.u).come = upd (fun _ => none) 0 ([], Vf.bl c.u.locals.length (Vf.Fl.first k))) := by
        unfold Hid
        unfold Vf.start
        rw [Vf.cm_note, ← hkp2]
        rfl
      obtain ⟨⟨n0, hn0⟩, ⟨n1, hn1⟩⟩ := ((HS5.out.grown HG.out).no (i := 0) hz5 rfl).2
      have n2 := ((HS5.out.grown HG.out).no (i := 0) hz5 rfl).1
      have f0 := (HS5.out.grown HG.out).frozen 0
      have f1 := (HS5.out.grown HG.out).frozen 1
      have f2 := (HS5.out.grown HG.out).frozen 2
      have hl2 := (HS5.out.grown HG.out).lt
      simp only [Nat.zero_mul, Nat.zero_add] at hn0 hn1 n2
      have hkt : c.u.params.toNat = k := by omega
      have HKT := hide hkt
      have HCW : Hid (CdAt c kk w wr) := HC5.out.next HG.out
      have HSP : Hid (SeAt (w.heap.size + 1 + 1 + 1 + 1) c.u.locals.length c.u.code.length (w.heap.size + 1 + 1 + 1 + 1) (Vf.cm c.u.locals.length (Vf.start c.u).come) none (((wr.setCell ⟨w.heap.size + 1 + 1 + 1 + 1, 0, none⟩ (.bool true)).setCell ⟨w.heap.size + 1 + 1 + 1 + 1, 1, none⟩ (.string ⟨#[]⟩)).setCell ⟨w.heap.size + 1 + 1 + 1 + 1, 2, none⟩ (.slice (some ⟨w.heap.size + 1 + 1 + 1 + 1 + 1, 0, none⟩) c.u.locals.length c.u.locals.length))) := by
        unfold Hid
        rw [HST.out]
        exact HS5.out.put (i := 0) (st := []) HG.out (fun _ e => by cases e) (by rw [HZ5.out]; omega) hz5 (by rw [HZ5.out]; exact HBR.out) (Vf.bl_len _ _) rfl
      clear hkp2 hkt hd HST HC5 HS5 HG HBR
      have HGG : Hid (∀ (W : World), W = ((((wr.setCell ⟨w.heap.size + 1 + 1 + 1 + 1, 0, none⟩ (.bool true)).setCell ⟨w.heap.size + 1 + 1 + 1 + 1, 1, none⟩ (.string ⟨#[]⟩)).setCell ⟨w.heap.size + 1 + 1 + 1 + 1, 2, none⟩ (.slice (some ⟨w.heap.size + 1 + 1 + 1 + 1 + 1, 0, none⟩) c.u.locals.length c.u.locals.length))).alloc (.cells #[.int .i64 0] 3) → CdG c kk w er num (Vf.mu c.u.code.length (Vf.start c.u) + 1) (.slice (some ⟨wr.heap.size, 0, none⟩) 1 1) W) := by
        intro W hW
        subst hW
        refine ⟨Vf.start c.u, ⟨(((HCW.out.set (Nat.le_refl _) _ _).set (Nat.le_refl _) _ _).set (Nat.le_refl _) _ _).new _, HSP.out.grown (grown0_new (World.grownBy.refl _ _) _), ?_, ?_, ?_⟩, by omega, ?_, hr.out⟩
        · refine .inr ⟨wr.heap.size, 0, 1, [.int .i64 0], rfl, ?_, heap_new2 (by simp [World.setCell]), by simp, by simp [Vf.start, Vf.S.note], fun i x hx => ?_⟩
          · have := HCW.out.lt
            omega
          · have e : (Vf.start c.u).row = [0] := rfl
            rw [e] at hx
            cases i with
            | zero => simp at hx; subst hx; rfl
            | succ i => simp at hx
        · refine note_inv ⟨fun i k hk => (by cases hk), fun i hi => (by cases hi)⟩ hz5 ⟨fun t ht => (by cases ht), by simp⟩
        · refine Vf.Flg.note (fun _ _ h => by cases h) (Vf.FlOk.first (by omega))
        · have := Vf.mu_start (u := c.u)
          omega
      go_wp2
      refine wp_loop_rounds (c := body2) (Vf.mu c.u.code.length (Vf.start c.u) + 1) (loop2 c B kk w hmd hun hB hR HHD HFO hz1 hz6 er num _ _ _ _ _ _ _ _ _ _ _ _ _ _ _ _ _ _ _ _ _ _ _ _ _ _ _ _ _ _ _ _ _ ?_ ?_ (Vf.mu c.u.code.length (Vf.start c.u) + 1) _ _ _ _ _ _ _ _ _ _ _ _ _ _ _ _ _ _ _ _ _ _ _ _ _ _ _ _ _ _ _ _ _ _ _ _ _ _ _ _ _ _ _ _ _ _ _ _ _ _ _ _ _ _ _ _ _ _ _ _ _ _ _ _ _ _ _ _ _ _ _ _ _ _ _ _ _ _ _ _ _ _ _ _ _ _ _ _ _ _ _ _ _ _ _ _ _ _ _ _ _ _ _ _ _ _ _ _ _ _ _ _ _ _ _ _ _ _ _ _ _ _ _ _ _ _ _ _ _ _ _ _ _ _ _ _ _ _ _ _ _ _ _ _ _ _ _ _ _ _ _ _ _ _ _ _ _ _ _ _ _ _ _ _ _ _ _ _ _ _ _ _ _ _ _ _ _ _ _ _ _ _ _ _ _ _ _ _ _ _ _ _ _ _ _ _ _ _ _ _ _ _ _ _ _ _ _ _ _ _ _ _ _ _ _ _ _ _ _ _ _ _ _ _ _ _ _ _ _ _ _ _ _ _ _ _ _ _ _ _ _ _ _ _ _ _ _ _ _ _ _ _ _ _ _ _ _ _ _ _ _ _ _ _ _ _ _ _ _ _ (.slice (some ⟨wr.heap.size, 0, none⟩) 1 1) _ (HGG.out _ rfl))
      · intro u10 u11 u12 u13 u14 u15 u16 u17 u18 u19 u20 u21 u22 u23 u24 u25 u26 u27 u55 u56 u57 u58 u59 u60 u61 u62 u63 u64 u65 u66 u67 u68 u69 u70 u71 u72 u73 u74 u75 u76 u77 u78 u79 u80 u81 u82 u83 u84 u85 u86 u87 u88 u89 u90 u91 u92 u93 u94 u95 u96 u97 u98 u99 u100 u101 u102 u103 u104 u105 u106 u107 u108 u109 u110 u111 u112 u113 u114 u115 u116 u117 u118 u119 u120 u121 u122 u123 u124 u125 u126 u127 u128 u129 u130 u131 u132 u133 u134 u135 u136 u137 u138 u139 u140 u141 u142 u143 u144 u145 u146 u147 u148 u149 u150 u151 u152 u153 u154 u155 u156 u157 u158 u159 u160 u161 u162 u163 u164 u165 u166 u167 u168 u169 u170 u171 u172 u173 u174 u175 u176 u177 u178 u179 u180 u181 u182 u183 u184 u185 u186 u187 u188 u189 u190 u191 u192 u193 u194 u195 u196 u197 u198 u199 u200 u201 u202 u203 u204 u205 u206 u207 u208 u209 u210 u211 u212 u213 u214 u215 u216 u217 u218 u219 u220 u221 u222 u223 u224 u225 u226 u227 u228 u229 u230 u231 u232 u233 u234 u235 u236 u237 u238 u239 u240 u241 u242 u243 u244 u245 u246 u247 u248 u249 u250 u251 u252 u253 u254 u255 u256 u257 u258 u259 u260 u261 u262 u263 u264 u265 u266 u267 u268 u269 u270 u271 u272 u273 u274 u275 u276 u277 u278 u279 u280 u281 u282 u283 u284 u285 u286 u287 u288 u289 u290 u291 u292 u293 u294 u295 u296 u297 u298 u299 u300 u301 u302 u303 u304 u305 u306 rv w' e1 e2 hcd
        have HCD := hide hcd
        have HE1 : Hid (er = 0 ∧ un = 0 ∧ num = 0) := ⟨e1, by rw [hun2.out, if_pos e1], e2⟩
        obtain ⟨⟨z0, z1, z2⟩, y0, y1, y2⟩ := wh_cells hcd.wz
        have hzl := hcd.lt
        clear hcd e1 e2
        go_wp2
        refine bodyPost_ret (v := whV 0 0 0) (by simp [results, Try.results18, go_sem, z0, z1, z2]) rfl ?_
        rw [HE1.out.1, HE1.out.2.1, HE1.out.2.2]
        exact ⟨rfl, grown0_setN (grown0_setN (grown0_setN HCD.out.grown (by omega) _ _) (by omega) _ _) (by omega) _ _⟩
      · intro a' w' e' n' e1 e2 hne h4 hdf hce hgr
        obtain ⟨⟨z0, z1, z2⟩, _⟩ := wh_cells hce
        have HH := hide (And.intro e1 (And.intro e2 hne))
        clear e1 e2 hne
        go_wp2
        obtain ⟨e1, e2, hne⟩ := HH.out
        refine bodyPost_ret (v := whV e' (kk : Int) (n' : Int)) (by simp [results, Try.results18, go_sem, h4, z0, z1, z2]) hdf ?_
        have h5 := hun2.out
        rw [if_neg (by rw [e1]; exact hne)] at h5
        rw [h5, e1, e2]
        exact ⟨rfl, hgr⟩
end Go.Proofs.Ytfhombcgdkgcpaa
