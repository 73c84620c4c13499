/- The document's answer, chapter 7, walked: rounds of Code (J, A3, E3). (Laid by tools/mkcode2.py.) -/
import Derived.Test.YtbkimpimoclobaaM35
namespace Go.Proofs.Ytbkimpimoclobaa
open Go.RowKit



set_option maxRecDepth 1000000 in
set_option maxHeartbeats 8000000 in
theorem round2_J (t0 t1 t7 t8 t10 t11 t12 t13 t14 t15 t16 t17 t18 t19 t20 t21 t22 t23 t24 t25 t26 t27 t28 t29 t30 t31 t32 t33 t34 t35 t36 t37 t38 t39 t40 t41 t42 t43 t44 t45 t46 t47 t48 t49 t50 t51 t52 t53 t54 t55 t56 t57 t58 t59 t60 t61 t62 t63 t64 t65 t66 t67 t68 t69 t70 t71 t72 t73 t74 t75 t76 t77 t78 t79 t80 t81 t82 t83 t84 t85 t86 t87 t88 t89 t90 t91 t92 t93 t94 t95 t96 t97 t98 t99 t100 t101 t102 t103 t104 t105 t106 t107 t108 t109 t110 t111 t112 t113 t114 t115 t116 t117 t118 t119 t120 t121 t122 t123 t124 t125 t126 t127 t128 t129 t130 t131 t132 t133 t134 t135 t136 t137 t138 t139 t140 t141 t142 t143 t144 t145 t146 t147 t148 t149 t150 t151 t152 t153 t154 t155 t156 t157 t158 t159 t160 t161 t162 t163 t164 t165 t166 t167 t168 t169 t170 t171 t172 t173 t174 t175 t176 t177 t178 t179 t180 t181 t182 t183 t184 t185 t186 t187 t188 t189 t190 t191 t192 t193 t194 t195 t196 t197 t198 t199 t200 t201 t202 t203 t204 t205 t206 t207 t208 t209 t210 t211 t212 t213 t214 t215 t216 t217 t218 t219 t220 t221 t222 t223 t224 t225 t226 t227 t228 t229 t230 t231 t232 t233 t234 t235 t236 t237 t238 t239 t240 t241 t242 t243 t244 t245 t246 t247 t248 t249 t250 t251 t252 t253 t254 t255 t256 t257 t258 t259 t260 t261 t262 t263 t264 t265 t266 t267 t268 t269 t270 t271 t272 t273 t274 t275 t276 t277 t278 t279 t280 t281 t282 t283 t284 t285 t286 t287 t288 t289 t290 t291 t292 t293 t294 t295 t296 t297 t298 t299 t300 t301 t302 t303 t304 t305 t306 t307 : Value) (c : FC) (B kk n : Nat) (w : World) (hmd : Hid (ModIn B w c.m c.ab c.au)) (hun : Hid (UnIn B w c.u c.al c.ac c.cl c.cc)) (hB : B ≤ w.heap.size) (hR : Hid (Rt c.m)) (hhd : Hid (Vf.headE c.m c.u = 0)) (hfo : Hid (Vf.Forms c.m c.u)) (hz1 : c.u.locals.length ≤ 200) (hz6 : c.u.code.length ≤ 4000) (er num : Int) (f : Nat) (come : Nat → Option Vf.Kn) (row : List Nat) (rv : Value) (wr : World) (k : Vf.Kn) (op a nn : Int) (hn : n < c.u.code.length) (hk : Hid (come n = some k)) (hx : Hid (c.u.code[n]? = some ⟨op, a, nn⟩)) (hC : Hid (CoAt c kk w ⟨come, n :: row⟩ rv wr)) (hm : Hid (Vf.mu c.u.code.length ⟨come, n :: row⟩ < f + 1)) (hm3 : Hid (Vf.mu c.u.code.length ⟨come, n :: row⟩ ≤ 3000000)) (hD : Hid (DD c er num n f (Vf.mu c.u.code.length ⟨come, row⟩) (Vf.andThen (Vf.reck c.m c.u ⟨op, a, nn⟩ k) fun k' => Vf.goAll c.u.code.length k' (Vf.goes ⟨op, a, nn⟩ n) ⟨come, row⟩))) (K : Act → World → Prop) (Q : Exit → Act → World → Prop)
    (hK : ∀ (u10 u11 u12 u13 u14 u15 u16 u17 u18 u19 u20 u21 u22 u23 u24 u25 u26 u27 u55 u56 u57 u58 u59 u60 u61 u62 u63 u64 u65 u66 u67 u68 u69 u70 u71 u72 u73 u74 u75 u76 u77 u78 u79 u80 u81 u82 u83 u84 u85 u86 u87 u88 u89 u90 u91 u92 u93 u94 u95 u96 u97 u98 u99 u100 u101 u102 u103 u104 u105 u106 u107 u108 u109 u110 u111 u112 u113 u114 u115 u116 u117 u118 u119 u120 u121 u122 u123 u124 u125 u126 u127 u128 u129 u130 u131 u132 u133 u134 u135 u136 u137 u138 u139 u140 u141 u142 u143 u144 u145 u146 u147 u148 u149 u150 u151 u152 u153 u154 u155 u156 u157 u158 u159 u160 u161 u162 u163 u164 u165 u166 u167 u168 u169 u170 u171 u172 u173 u174 u175 u176 u177 u178 u179 u180 u181 u182 u183 u184 u185 u186 u187 u188 u189 u190 u191 u192 u193 u194 u195 u196 u197 u198 u199 u200 u201 u202 u203 u204 u205 u206 u207 u208 u209 u210 u211 u212 u213 u214 u215 u216 u217 u218 u219 u220 u221 u222 u223 u224 u225 u226 u227 u228 u229 u230 u231 u232 u233 u234 u235 u236 u237 u238 u239 u240 u241 u242 u243 u244 u245 u246 u247 u248 u249 u250 u251 u252 u253 u254 u255 u256 u257 u258 u259 u260 u261 u262 u263 u264 u265 u266 u267 u268 u269 u270 u271 u272 u273 u274 u275 u276 u277 u278 u279 u280 u281 u282 u283 u284 u285 u286 u287 u288 u289 u290 u291 u292 u293 u294 u295 u296 u297 u298 u299 u300 u301 u302 u303 u304 u305 u306 : Value) (rv : Value) (w' : World), CdG c kk w er num f rv w' → K ⟨#[t0, t1, .pointer (some ⟨w.heap.size, 0, none⟩), .pointer (some ⟨w.heap.size + 1, 0, none⟩), .pointer (some ⟨w.heap.size + 1 + 1, 0, none⟩), .pointer (some ⟨w.heap.size + 1 + 1 + 1, 0, none⟩), .slice (some ⟨w.heap.size + 1 + 1 + 1 + 1, 0, none⟩) c.u.code.length c.u.code.length, t7, t8, rv, u10, u11, u12, u13, u14, u15, u16, u17, u18, u19, u20, u21, u22, u23, u24, u25, u26, u27, t28, t29, t30, t31, t32, t33, t34, t35, t36, t37, t38, t39, t40, t41, t42, t43, t44, t45, t46, t47, t48, t49, t50, t51, t52, t53, t54, u55, u56, u57, u58, u59, u60, u61, u62, u63, u64, u65, u66, u67, u68, u69, u70, u71, u72, u73, u74, u75, u76, u77, u78, u79, u80, u81, u82, u83, u84, u85, u86, u87, u88, u89, u90, u91, u92, u93, u94, u95, u96, u97, u98, u99, u100, u101, u102, u103, u104, u105, u106, u107, u108, u109, u110, u111, u112, u113, u114, u115, u116, u117, u118, u119, u120, u121, u122, u123, u124, u125, u126, u127, u128, u129, u130, u131, u132, u133, u134, u135, u136, u137, u138, u139, u140, u141, u142, u143, u144, u145, u146, u147, u148, u149, u150, u151, u152, u153, u154, u155, u156, u157, u158, u159, u160, u161, u162, u163, u164, u165, u166, u167, u168, u169, u170, u171, u172, u173, u174, u175, u176, u177, u178, u179, u180, u181, u182, u183, u184, u185, u186, u187, u188, u189, u190, u191, u192, u193, u194, u195, u196, u197, u198, u199, u200, u201, u202, u203, u204, u205, u206, u207, u208, u209, u210, u211, u212, u213, u214, u215, u216, u217, u218, u219, u220, u221, u222, u223, u224, u225, u226, u227, u228, u229, u230, u231, u232, u233, u234, u235, u236, u237, u238, u239, u240, u241, u242, u243, u244, u245, u246, u247, u248, u249, u250, u251, u252, u253, u254, u255, u256, u257, u258, u259, u260, u261, u262, u263, u264, u265, u266, u267, u268, u269, u270, u271, u272, u273, u274, u275, u276, u277, u278, u279, u280, u281, u282, u283, u284, u285, u286, u287, u288, u289, u290, u291, u292, u293, u294, u295, u296, u297, u298, u299, u300, u301, u302, u303, u304, u305, u306, t307], []⟩ w')
    (hRt : ∀ (a : Act) (w' : World) (e : Int) (n : Nat), er = e → num = (n : Int) → e ≠ 0 → a.tmps[4]? = some (.pointer (some ⟨w.heap.size + 1 + 1, 0, none⟩)) → a.defers = [] → w'.heap[w.heap.size + 1 + 1]? = some (.cells #[.int .i64 e, .int .i64 (kk : Int), .int .i64 (n : Int)] 28 (0, 0)) → w.grownBy w' none → Q .ret a w')
    (o3 : (op == 3) = false) (o24 : (op == 24) = false) (o25 : (op == 25) = false) (o31 : (op == 31) = false) (o30 : (op == 30) = false) (o32 : (op == 32) = false) (o4 : (op == 4) = false) (o21 : (op == 21) = false) (o22 : (op == 22) = false) :
    Code.wp Try.prog body2 (Exit.then K Q) ⟨#[t0, t1, .pointer (some ⟨w.heap.size, 0, none⟩), .pointer (some ⟨w.heap.size + 1, 0, none⟩), .pointer (some ⟨w.heap.size + 1 + 1, 0, none⟩), .pointer (some ⟨w.heap.size + 1 + 1 + 1, 0, none⟩), .slice (some ⟨w.heap.size + 1 + 1 + 1 + 1, 0, none⟩) c.u.code.length c.u.code.length, t7, t8, rv, t10, t11, t12, t13, t14, t15, t16, t17, t18, t19, t20, t21, t22, t23, t24, t25, t26, t27, t28, t29, t30, t31, t32, t33, t34, t35, t36, t37, t38, t39, t40, t41, t42, t43, t44, t45, t46, t47, t48, t49, t50, t51, t52, t53, t54, t55, t56, t57, t58, t59, t60, t61, t62, t63, t64, t65, t66, t67, t68, t69, t70, t71, t72, t73, t74, t75, t76, t77, t78, t79, t80, t81, t82, t83, t84, t85, t86, t87, t88, t89, t90, t91, t92, t93, t94, t95, t96, t97, t98, t99, t100, t101, t102, t103, t104, t105, t106, t107, t108, t109, t110, t111, t112, t113, t114, t115, t116, t117, t118, t119, t120, t121, t122, t123, t124, t125, t126, t127, t128, t129, t130, t131, t132, t133, t134, t135, t136, t137, t138, t139, t140, t141, t142, t143, t144, t145, t146, t147, t148, t149, t150, t151, t152, t153, t154, t155, t156, t157, t158, t159, t160, t161, t162, t163, t164, t165, t166, t167, t168, t169, t170, t171, t172, t173, t174, t175, t176, t177, t178, t179, t180, t181, t182, t183, t184, t185, t186, t187, t188, t189, t190, t191, t192, t193, t194, t195, t196, t197, t198, t199, t200, t201, t202, t203, t204, t205, t206, t207, t208, t209, t210, t211, t212, t213, t214, t215, t216, t217, t218, t219, t220, t221, t222, t223, t224, t225, t226, t227, t228, t229, t230, t231, t232, t233, t234, t235, t236, t237, t238, t239, t240, t241, t242, t243, t244, t245, t246, t247, t248, t249, t250, t251, t252, t253, t254, t255, t256, t257, t258, t259, t260, t261, t262, t263, t264, t265, t266, t267, t268, t269, t270, t271, t272, t273, t274, t275, t276, t277, t278, t279, t280, t281, t282, t283, t284, t285, t286, t287, t288, t289, t290, t291, t292, t293, t294, t295, t296, t297, t298, t299, t300, t301, t302, t303, t304, t305, t306, t307], []⟩ wr := by
  have hmf : ∀ (fn : Fn) (first cap : Array Value) (w : World), (Instr.makeFunc fn first cap).run Try.prog w = .ok (.func fn first cap) w := fun _ _ _ _ => rfl
  have hu1 := hmd
  have hu2 := hz6
  have hu3 := hm
  clear hu1 hu2 hu3
  have hmu := hR.out.units
  have HFE : Hid (Vf.formE c.m c.u ⟨op, a, nn⟩ = 0) := hfo.out _ (List.mem_of_getElem? hx.out)
  have HOK : Hid (OkS c.m k.st) := (hC.out.inv.come n k hk.out).2
  have HRQ : Hid (Vf.rreck c.m c.u ⟨op, a, nn⟩ k = Vf.lmap (Vf.reckS c.m c.u ⟨op, a, nn⟩ k)) := Vf.rreck_eq hR.out hhd.out HFE.out HOK.out
  have n3 : Hid (¬ op = 3) := by unfold Hid; simpa using o3
  have n24 : Hid (¬ op = 24) := by unfold Hid; simpa using o24
  have n25 : Hid (¬ op = 25) := by unfold Hid; simpa using o25
  have n31 : Hid (¬ op = 31) := by unfold Hid; simpa using o31
  have n30 : Hid (¬ op = 30) := by unfold Hid; simpa using o30
  have n32 : Hid (¬ op = 32) := by unfold Hid; simpa using o32
  have n4 : Hid (¬ op = 4) := by unfold Hid; simpa using o4
  have n21 : Hid (¬ op = 21) := by unfold Hid; simpa using o21
  have n22 : Hid (¬ op = 22) := by unfold Hid; simpa using o22
  have HN3 : Hid (¬ (op = 3 ∧ k.fl.has a.toNat = false)) := fun h => n3.out h.1
  have HEA : Hid (¬ Vf.early c.u ⟨op, a, nn⟩) := Vf.early_no n24.out n25.out n31.out
  have HND : Hid (Vf.rneed c.m c.u ⟨op, a, nn⟩ k.st = .ok (Vf.needs c.m c.u ⟨op, a, nn⟩)) := by
    unfold Hid Vf.rneed
    rw [if_neg n30.out, if_neg n32.out]
  have HK := hide hK
  have HRT := hide hRt
  clear hK hRt
  obtain ⟨g, off, cap, rv', hrv, cx, hgl, hgB, hq', hown, hsl1, hsl2⟩ := row_tail hC.out.q
  subst hrv
  obtain ⟨a3, c3, hform⟩ := hq'.form
  subst hform
  obtain ⟨s1, v1, d0, d1, d2, hs1, hbr, hbl, _⟩ := hC.out.se.yes hn (Vf.cm_some hk.out)
  obtain ⟨a1, c1, hv1⟩ := br_form hbr (Vf.bl_len _ _)
  subst hv1
  have HBR := hide hbr
  have HS1 := hide hs1
  obtain ⟨_, _, _, bC, oC, hac, hbC, e0, e1, e2⟩ := (hun.out.low (low0 hC.out.cd.grown hB)).code n ⟨op, a, nn⟩ hx.out
  have HAC := hide hac
  have q5 := (un_cells2 hC.out.cd.ub).2.2.2.2.2
  rw [hac] at q5
  have lW := hC.out.cd.lt
  have lS := hC.out.se.lt
  have lS1 : w.heap.size + 1 + 1 + 1 + 1 < wr.heap.size + 1 := by omega
  have lS2 : w.heap.size + 1 + 1 + 1 + 1 < wr.heap.size + 1 + 1 := by omega
  have lC : bC < wr.heap.size := by omega
  have lC1 : bC < wr.heap.size + 1 := by omega
  have hni : (n : Int) < (c.u.code.length : Int) := by omega
  have hr0 : (0 : Int) < (row.length : Int) + 1 := by omega
  have HQ' := hide hq'
  have HOWN := hide hown
  clear hbr hs1 hac hq' hown
  conv => arg 2; whnf
  go_wp2_with (at_builtin; refine wpList_append_bools rfl _ _ rfl (wr.heap.size + 1 + 1) (w.heap.size + 1 + 1 + 1 + 1) rfl (new2 _ _ _ _) _ (Vf.bl c.u.locals.length k.fl) rfl (br_grown HBR.out (grown0_new (two_new _ _ _) _)) (by rw [Vf.bl_len]; exact hz1) ?_; intro v2 w2 hb2 hgg2; obtain ⟨a2, c2, hv2⟩ := br_form hb2 (Vf.bl_len _ _); subst hv2; have HX := hide (rx_start hC.out HQ'.out HOWN.out hgl hm3.out hgg2 hb2); obtain ⟨m0, m1, _⟩ := am_cells HX.out.cd.mb; obtain ⟨q0, q1, q2, q3, q4, q5'⟩ := un_cells2 HX.out.cd.ub; obtain ⟨i0, i1, i2⟩ := in_cells HX.out.ib; have aa := one_cells HX.out.ab; have lW' := HX.out.cd.lt; have lA := lt_of_block HX.out.ab; have lI := lt_of_block HX.out.ib; obtain ⟨s1', v1', d0', d1', d2', hs1', _⟩ := HX.out.se.yes hn (Vf.cm_some hk.out); have lS3 := HX.out.se.lt; clear hb2 hgg2 cx d0 d1 d2 q5 lW lS lS1 lS2 lC lC1 e0 e1 e2 hsl1 hsl2)
  have HG0 := hide HX.out.cd.grown
  refine (rneeds_any c.m c.ab c.au c.cb c.cu B c.u c.al c.ac c.cl c.cc op a nn _ (hide (hmd.out.low (low0 HG0.out hB))) (hide (hun.out.low (low0 HG0.out hB))) (by omega) hR hhd HFE HEA).mono ?_
  rintro e w3 ⟨⟨sw, sp, hsw, hsp, rfl⟩, hg3⟩
  dsimp only
  have HX3 := hide (HX.out.next hg3)
  have HSW := hide hsw
  have HSP := hide hsp
  clear m0 m1 q0 q1 q2 q3 q4 q5' i0 i1 i2 aa lW' lA lI d0' d1' d2' lS3 hg3 hsw hsp HG0
  obtain ⟨q0, q1, q2, q3, q4, q5'⟩ := un_cells2 HX3.out.cd.ub
  obtain ⟨i0, i1, i2⟩ := in_cells HX3.out.ib
  have aa := one_cells HX3.out.ab
  have lW' := HX3.out.cd.lt
  have lA := lt_of_block HX3.out.ab
  have lI := lt_of_block HX3.out.ib
  go_wp2_with fail
  obtain ⟨R, hRd⟩ : ∃ R, R = Vf.rtk (Vf.needs c.m c.u ⟨op, a, nn⟩).1.reverse (k.st.map Vf.ltr) 0 := ⟨_, rfl⟩
  have HRD := hide hRd
  have hfw := needs_few (x := ⟨op, a, nn⟩) hR.out HFE.out
  have hz3 : s1'.size ≤ 1000 := by rw [← list_size, hs1']; have := HOK.out.2; simp; omega
  have hz4 : sw.size ≤ 1000 := by rw [← list_size, HSW.out]; omega
  have hzp : sp.size ≤ 1 := by rw [← list_size, HSP.out]; exact hfw.2
  have HRG : Hid (Vf.rreck c.m c.u ⟨op, a, nn⟩ k = Vf.andThen R fun r => Vf.rput ⟨op, a, nn⟩ (Vf.needs c.m c.u ⟨op, a, nn⟩).2 r) := by
    unfold Hid
    rw [hRd]
    exact rreck_go HN3.out HEA.out HND.out
  clear hRd hfw
  refine (rtake_any s1' sw (k.st.map Vf.ltr) (Vf.needs c.m c.u ⟨op, a, nn⟩).1.reverse _ (hide hs1') (hide (by rw [HSW.out]; simp)) hz3 hz4 R HRD).mono ?_
  rintro e w4 ⟨hrk, rfl⟩
  cases R with
  | error e' =>
    obtain rfl : e = _ := hrk
    dsimp only
    have HRE : Hid (Vf.rreck c.m c.u ⟨op, a, nn⟩ k = .error e') := HRG.out
    have HE : Hid (DD c er num n f (Vf.mu c.u.code.length ⟨come, row⟩) (.error e')) := rr_bad hD.out HRQ.out HRE.out
    have hnz : e' ≠ 0 := by
      have h1 := HRE.out
      rw [HRQ.out] at h1
      exact reckS_nz _ _ _ _ e' (lmap_err h1)
    have enz : (e' != 0) = true := by simpa using hnz
    go_wp2_with fail
    refine (rbad_any (w.heap.size + 1) wr.heap.size e' (kk : Int) (n : Int) _ (hide (one_cells HX3.out.cd.kb)) (hide (one_cells HX3.out.ab)) (by omega) (lt_of_block HX3.out.ab)).mono ?_
    rintro e w9 ⟨rfl, hg9⟩
    dsimp only
    have HW9 : Hid (w9.heap[w.heap.size + 1 + 1]? = some whZ) := (kept0 hg9 (lt_of_block HX3.out.cd.wz)).trans HX3.out.cd.wz
    have HG9 : Hid (w.grownBy w9 none) := grown0_tr' HX3.out.cd.grown hg9
    clear q0 q1 q2 q3 q4 q5' i0 i1 i2 aa lA lI
    obtain ⟨⟨z0, z1, z2⟩, y0, y1, y2⟩ := wh_cells HW9.out
    have hz9 := lt_of_block HW9.out
    clear hg9
    go_wp2
    exact HRT.out _ _ e' n HE.out.1 HE.out.2 hnz rfl rfl (wh_set HW9.out _ _ _) (grown0_setN (grown0_setN (grown0_setN HG9.out (by omega) _ _) (by omega) _ _) (by omega) _ _)
  | ok l =>
    obtain ⟨s2, hs2, rfl⟩ := hrk
    dsimp only
    have hz5 : s2.size ≤ 1000 := by
      have h1 := HRD.out
      rw [← list_size, hs2]
      have := rtk_len _ _ _ _ h1.symm
      have h2 := HOK.out.2
      rw [List.length_map] at this
      rw [List.length_reverse]
      omega
    have hzz : ¬ 9223372036854775807 < s2.size + sp.size := by omega
    obtain ⟨s3, hs3⟩ : ∃ s3, s2 ++ sp = s3 := ⟨_, rfl⟩
    have HS3 : Hid (s3.data.toList = ((Vf.needs c.m c.u ⟨op, a, nn⟩).2.reverse ++ l).reverse) := by
      unfold Hid
      rw [← hs3, ByteArray.data_append]
      simp [hs2, HSP.out]
    have hsz3 : s3.size = ((Vf.needs c.m c.u ⟨op, a, nn⟩).2.reverse ++ l).length := by rw [← list_size, HS3.out, List.length_reverse]
    have HRP : Hid (Vf.rreck c.m c.u ⟨op, a, nn⟩ k = Vf.rput ⟨op, a, nn⟩ (Vf.needs c.m c.u ⟨op, a, nn⟩).2 l) := HRG.out
    by_cases h300 : 300 < s3.size
    · have d300 : decide ((300 : Int) < (s3.size : Int)) = true := by simp; omega
      have HE : Hid (DD c er num n f (Vf.mu c.u.code.length ⟨come, row⟩) (.error 4)) := rr_bad hD.out HRQ.out (by rw [HRP.out, rput_split, if_pos (by rw [← hsz3]; exact h300)])
      clear h300 hsz3
      go_wp2_with fail
      refine (rbad_any (w.heap.size + 1) wr.heap.size 4 (kk : Int) (n : Int) _ (hide (one_cells HX3.out.cd.kb)) (hide (one_cells HX3.out.ab)) (by omega) (lt_of_block HX3.out.ab)).mono ?_
      rintro e w9 ⟨rfl, hg9⟩
      dsimp only
      have HW9 : Hid (w9.heap[w.heap.size + 1 + 1]? = some whZ) := (kept0 hg9 (lt_of_block HX3.out.cd.wz)).trans HX3.out.cd.wz
      have HG9 : Hid (w.grownBy w9 none) := grown0_tr' HX3.out.cd.grown hg9
      clear q0 q1 q2 q3 q4 q5' i0 i1 i2 aa lA lI
      obtain ⟨⟨z0, z1, z2⟩, y0, y1, y2⟩ := wh_cells HW9.out
      have hz9 := lt_of_block HW9.out
      clear hg9
      go_wp2
      exact HRT.out _ _ 4 n HE.out.1 HE.out.2 (by decide) rfl rfl (wh_set HW9.out _ _ _) (grown0_setN (grown0_setN (grown0_setN HG9.out (by omega) _ _) (by omega) _ _) (by omega) _ _)
    · have d300 : decide ((300 : Int) < (s3.size : Int)) = false := by simp; omega
      have HRP2 : Hid (Vf.rreck c.m c.u ⟨op, a, nn⟩ k = if (op = 24 ∨ op = 25) ∧ (Vf.needs c.m c.u ⟨op, a, nn⟩).2.reverse ++ l ≠ [] then .error 12 else .ok ((Vf.needs c.m c.u ⟨op, a, nn⟩).2.reverse ++ l)) := by
        unfold Hid
        rw [HRP.out, rput_split, if_neg (by rw [← hsz3]; exact h300)]
      clear h300 HRP hsz3
      go_wp2_with fail
      have HGS : Hid (Vf.goes ⟨op, a, nn⟩ n = [(n : Int) + 1]) := by
        unfold Hid Vf.goes
        rw [if_neg (by show ¬ (op = 24 ∨ op = 25); have := n24.out; have := n25.out; omega), if_neg n21.out, if_neg n22.out]
      have HRO : Hid (Vf.rreck c.m c.u ⟨op, a, nn⟩ k = .ok ((Vf.needs c.m c.u ⟨op, a, nn⟩).2.reverse ++ l)) := by
        unfold Hid
        rw [HRP2.out, if_neg (fun hh => by have := n24.out; have := n25.out; omega)]
      obtain ⟨st', hst', hrk', hD'⟩ := rr_ok hD.out HRQ.out HRO.out
      have HD : Hid (DD c er num n f (Vf.mu c.u.code.length ⟨come, row⟩) (Vf.goAll c.u.code.length ⟨st', Vf.reckF ⟨op, a, nn⟩ k.fl⟩ [(n : Int) + 1] ⟨come, row⟩)) := by
        unfold Hid
        rw [← HGS.out]
        exact hD'
      have HOK' : Hid (OkS c.m st') := reck_ok hR.out hhd.out HFE.out HOK.out hrk'
      have HSB : Hid (s3.data.toList = (st'.map Vf.ltr).reverse) := by
        unfold Hid
        rw [HS3.out, hst']
      have hfl : Vf.reckF ⟨op, a, nn⟩ k.fl = k.fl := by
        unfold Vf.reckF
        rw [if_neg n4.out]
      rw [hfl] at HD
      have HFK : Hid (Vf.FlOk c.u.locals.length (k.fl)) := (hC.out.flg n k hk.out)
      have HL3 : Hid (L3 c kk wr.heap.size w4.heap.size (wr.heap.size + 1 + 1) n (.slice a2 c.u.locals.length c2) [(n : Int) + 1] ⟨st', k.fl⟩ w ⟨come, row⟩ (.slice a3 row.length c3) 0 (w4.alloc (.cells #[.int .i64 ((n : Int) + 1)] 3))) := (HX3.out.next (grown0_new (World.grownBy.refl _ _) _)).l3 (fun _ => heap_alloc_new _ _) (fun b hb => by have := HX3.out.qa b hb; omega)
      have hmx := hm.out
      have hm4 := hm3.out
      rw [Vf.mu_row] at hmx hm4
      have HMX := hide hmx
      have HM4 := hide hm4
      clear hst' hrk' hD' hfl hmx hm4
      refine wp_loop_rounds (c := body3) 3 (loop3 c kk wr.heap.size w4.heap.size (wr.heap.size + 1 + 1) n (.slice a2 c.u.locals.length c2) (.slice (some ⟨w4.heap.size, 0, none⟩) 1 1) s3 [(n : Int) + 1] ⟨st', k.fl⟩ w (DD c er num n f (Vf.mu c.u.code.length ⟨come, row⟩)) HSB HOK' HFK (hide (fun t ht => by simp at ht; subst ht; omega)) (hide (fun _ => rfl)) (by simp) hz1 hmu _ _ _ _ _ _ _ _ _ _ _ _ _ _ _ _ _ _ _ _ _ _ _ _ _ _ _ _ _ _ _ _ _ _ _ _ _ _ _ _ _ _ _ _ _ _ _ _ _ _ _ _ _ _ _ _ _ _ _ _ _ _ _ _ _ _ _ _ _ _ _ _ _ _ _ _ _ _ _ _ _ _ _ _ _ _ _ _ _ _ _ _ _ _ _ _ _ _ _ _ _ _ _ _ _ _ _ _ _ _ _ _ _ _ _ _ _ _ _ _ _ _ _ _ _ _ _ _ _ _ _ _ _ _ _ _ _ _ _ _ _ _ _ _ _ _ _ _ _ _ _ _ _ _ _ _ _ _ _ _ _ _ _ _ _ _ _ _ _ _ _ _ _ _ _ _ _ _ _ _ _ _ _ _ _ _ _ _ _ _ _ _ _ _ _ _ _ _ _ _ _ _ _ _ _ _ _ _ _ _ _ _ _ _ _ _ _ _ _ _ _ ?_ ?_ 3 _ _ _ _ _ _ _ _ _ _ _ _ _ _ _ _ _ _ _ _ _ _ _ _ _ _ _ _ _ _ _ _ _ _ _ _ _ _ _ _ _ _ _ _ _ _ _ _ _ _ _ _ _ _ _ _ _ _ _ _ _ _ _ _ _ _ _ _ _ _ _ _ _ _ _ _ ⟨come, row⟩ (.slice a3 row.length c3) 0 _ (by simp) HL3.out HD.out)
      · intro x24 x25 x26 x27 x234 x235 x236 x237 x238 x239 x240 x241 x242 x243 x244 x245 x246 x247 x248 x249 x250 x251 x252 x253 x254 x255 x256 x257 x258 x259 x260 x261 x262 x263 x264 x265 x266 x267 x268 x269 x270 x271 x272 x273 x274 x275 x276 x277 x278 x279 x280 x281 x282 x283 x284 x285 x286 x287 x288 x289 x290 x291 x292 x293 x294 x295 x296 x297 x298 x299 x300 x301 x302 x303 x304 x305 x306 s' rv' w' hL hd
        have HLe := hide hL
        have HDe := hide hd
        clear hL hd
        go_wp2
        exact HK.out _ _ _ _ _ _ _ _ _ _ _ _ _ _ _ _ _ _ _ _ _ _ _ _ _ _ _ _ _ _ _ _ _ _ _ _ _ _ _ _ _ _ _ _ _ _ _ _ _ _ _ _ _ _ _ _ _ _ _ _ _ _ _ _ _ _ _ _ _ _ _ _ _ _ _ _ _ _ _ _ _ _ _ _ _ _ _ _ _ _ _ _ _ _ _ _ _ _ _ _ _ _ _ _ _ _ _ _ _ _ _ _ _ _ _ _ _ _ _ _ _ _ _ _ _ _ _ _ _ _ _ _ _ _ _ _ _ _ _ _ _ _ _ _ _ _ _ _ _ _ _ _ _ _ _ _ _ _ _ _ _ _ _ _ _ _ _ _ _ _ _ _ _ _ _ _ _ _ _ _ _ _ _ _ _ _ _ _ _ _ _ _ _ _ _ _ _ _ _ _ _ _ _ _ _ _ _ _ _ _ _ _ _ _ _ _ _ _ _ _ _ _ _ _ _ _ _ _ _ _ _ _ _ _ _ _ _ _ _ _ _ _ _ _ _ _ _ _ _ _ _ _ _ _ _ _ _ _ _ _ _ _ _ _ _ _ _ _ _ _ rv' _ ⟨s', ⟨HLe.out.cd, HLe.out.se.forget, HLe.out.q, HLe.out.inv, HLe.out.flg⟩, by have := HDe.out.2; have := HMX.out; omega, by have := HDe.out.2; have := HM4.out; omega, HDe.out.1⟩
      · intro a' w' e' hd hne h4 hdf hce hgr
        exact HRT.out a' w' e' n hd.1 hd.2 hne h4 hdf hce hgr



set_option maxRecDepth 1000000 in
set_option maxHeartbeats 8000000 in
theorem round2_A3 (t0 t1 t7 t8 t10 t11 t12 t13 t14 t15 t16 t17 t18 t19 t20 t21 t22 t23 t24 t25 t26 t27 t28 t29 t30 t31 t32 t33 t34 t35 t36 t37 t38 t39 t40 t41 t42 t43 t44 t45 t46 t47 t48 t49 t50 t51 t52 t53 t54 t55 t56 t57 t58 t59 t60 t61 t62 t63 t64 t65 t66 t67 t68 t69 t70 t71 t72 t73 t74 t75 t76 t77 t78 t79 t80 t81 t82 t83 t84 t85 t86 t87 t88 t89 t90 t91 t92 t93 t94 t95 t96 t97 t98 t99 t100 t101 t102 t103 t104 t105 t106 t107 t108 t109 t110 t111 t112 t113 t114 t115 t116 t117 t118 t119 t120 t121 t122 t123 t124 t125 t126 t127 t128 t129 t130 t131 t132 t133 t134 t135 t136 t137 t138 t139 t140 t141 t142 t143 t144 t145 t146 t147 t148 t149 t150 t151 t152 t153 t154 t155 t156 t157 t158 t159 t160 t161 t162 t163 t164 t165 t166 t167 t168 t169 t170 t171 t172 t173 t174 t175 t176 t177 t178 t179 t180 t181 t182 t183 t184 t185 t186 t187 t188 t189 t190 t191 t192 t193 t194 t195 t196 t197 t198 t199 t200 t201 t202 t203 t204 t205 t206 t207 t208 t209 t210 t211 t212 t213 t214 t215 t216 t217 t218 t219 t220 t221 t222 t223 t224 t225 t226 t227 t228 t229 t230 t231 t232 t233 t234 t235 t236 t237 t238 t239 t240 t241 t242 t243 t244 t245 t246 t247 t248 t249 t250 t251 t252 t253 t254 t255 t256 t257 t258 t259 t260 t261 t262 t263 t264 t265 t266 t267 t268 t269 t270 t271 t272 t273 t274 t275 t276 t277 t278 t279 t280 t281 t282 t283 t284 t285 t286 t287 t288 t289 t290 t291 t292 t293 t294 t295 t296 t297 t298 t299 t300 t301 t302 t303 t304 t305 t306 t307 : Value) (c : FC) (B kk n : Nat) (w : World) (hmd : Hid (ModIn B w c.m c.ab c.au)) (hun : Hid (UnIn B w c.u c.al c.ac c.cl c.cc)) (hB : B ≤ w.heap.size) (hR : Hid (Rt c.m)) (hhd : Hid (Vf.headE c.m c.u = 0)) (hfo : Hid (Vf.Forms c.m c.u)) (hz1 : c.u.locals.length ≤ 200) (hz6 : c.u.code.length ≤ 4000) (er num : Int) (f : Nat) (come : Nat → Option Vf.Kn) (row : List Nat) (rv : Value) (wr : World) (k : Vf.Kn) (op nn : Int) (an : Nat) (hn : n < c.u.code.length) (hk : Hid (come n = some k)) (hx : Hid (c.u.code[n]? = some ⟨op, (an : Int), nn⟩)) (hC : Hid (CoAt c kk w ⟨come, n :: row⟩ rv wr)) (hm : Hid (Vf.mu c.u.code.length ⟨come, n :: row⟩ < f + 1)) (hm3 : Hid (Vf.mu c.u.code.length ⟨come, n :: row⟩ ≤ 3000000)) (hD : Hid (DD c er num n f (Vf.mu c.u.code.length ⟨come, row⟩) (Vf.andThen (Vf.reck c.m c.u ⟨op, (an : Int), nn⟩ k) fun k' => Vf.goAll c.u.code.length k' (Vf.goes ⟨op, (an : Int), nn⟩ n) ⟨come, row⟩))) (K : Act → World → Prop) (Q : Exit → Act → World → Prop)
    (hK : ∀ (u10 u11 u12 u13 u14 u15 u16 u17 u18 u19 u20 u21 u22 u23 u24 u25 u26 u27 u55 u56 u57 u58 u59 u60 u61 u62 u63 u64 u65 u66 u67 u68 u69 u70 u71 u72 u73 u74 u75 u76 u77 u78 u79 u80 u81 u82 u83 u84 u85 u86 u87 u88 u89 u90 u91 u92 u93 u94 u95 u96 u97 u98 u99 u100 u101 u102 u103 u104 u105 u106 u107 u108 u109 u110 u111 u112 u113 u114 u115 u116 u117 u118 u119 u120 u121 u122 u123 u124 u125 u126 u127 u128 u129 u130 u131 u132 u133 u134 u135 u136 u137 u138 u139 u140 u141 u142 u143 u144 u145 u146 u147 u148 u149 u150 u151 u152 u153 u154 u155 u156 u157 u158 u159 u160 u161 u162 u163 u164 u165 u166 u167 u168 u169 u170 u171 u172 u173 u174 u175 u176 u177 u178 u179 u180 u181 u182 u183 u184 u185 u186 u187 u188 u189 u190 u191 u192 u193 u194 u195 u196 u197 u198 u199 u200 u201 u202 u203 u204 u205 u206 u207 u208 u209 u210 u211 u212 u213 u214 u215 u216 u217 u218 u219 u220 u221 u222 u223 u224 u225 u226 u227 u228 u229 u230 u231 u232 u233 u234 u235 u236 u237 u238 u239 u240 u241 u242 u243 u244 u245 u246 u247 u248 u249 u250 u251 u252 u253 u254 u255 u256 u257 u258 u259 u260 u261 u262 u263 u264 u265 u266 u267 u268 u269 u270 u271 u272 u273 u274 u275 u276 u277 u278 u279 u280 u281 u282 u283 u284 u285 u286 u287 u288 u289 u290 u291 u292 u293 u294 u295 u296 u297 u298 u299 u300 u301 u302 u303 u304 u305 u306 : Value) (rv : Value) (w' : World), CdG c kk w er num f rv w' → K ⟨#[t0, t1, .pointer (some ⟨w.heap.size, 0, none⟩), .pointer (some ⟨w.heap.size + 1, 0, none⟩), .pointer (some ⟨w.heap.size + 1 + 1, 0, none⟩), .pointer (some ⟨w.heap.size + 1 + 1 + 1, 0, none⟩), .slice (some ⟨w.heap.size + 1 + 1 + 1 + 1, 0, none⟩) c.u.code.length c.u.code.length, t7, t8, rv, u10, u11, u12, u13, u14, u15, u16, u17, u18, u19, u20, u21, u22, u23, u24, u25, u26, u27, t28, t29, t30, t31, t32, t33, t34, t35, t36, t37, t38, t39, t40, t41, t42, t43, t44, t45, t46, t47, t48, t49, t50, t51, t52, t53, t54, u55, u56, u57, u58, u59, u60, u61, u62, u63, u64, u65, u66, u67, u68, u69, u70, u71, u72, u73, u74, u75, u76, u77, u78, u79, u80, u81, u82, u83, u84, u85, u86, u87, u88, u89, u90, u91, u92, u93, u94, u95, u96, u97, u98, u99, u100, u101, u102, u103, u104, u105, u106, u107, u108, u109, u110, u111, u112, u113, u114, u115, u116, u117, u118, u119, u120, u121, u122, u123, u124, u125, u126, u127, u128, u129, u130, u131, u132, u133, u134, u135, u136, u137, u138, u139, u140, u141, u142, u143, u144, u145, u146, u147, u148, u149, u150, u151, u152, u153, u154, u155, u156, u157, u158, u159, u160, u161, u162, u163, u164, u165, u166, u167, u168, u169, u170, u171, u172, u173, u174, u175, u176, u177, u178, u179, u180, u181, u182, u183, u184, u185, u186, u187, u188, u189, u190, u191, u192, u193, u194, u195, u196, u197, u198, u199, u200, u201, u202, u203, u204, u205, u206, u207, u208, u209, u210, u211, u212, u213, u214, u215, u216, u217, u218, u219, u220, u221, u222, u223, u224, u225, u226, u227, u228, u229, u230, u231, u232, u233, u234, u235, u236, u237, u238, u239, u240, u241, u242, u243, u244, u245, u246, u247, u248, u249, u250, u251, u252, u253, u254, u255, u256, u257, u258, u259, u260, u261, u262, u263, u264, u265, u266, u267, u268, u269, u270, u271, u272, u273, u274, u275, u276, u277, u278, u279, u280, u281, u282, u283, u284, u285, u286, u287, u288, u289, u290, u291, u292, u293, u294, u295, u296, u297, u298, u299, u300, u301, u302, u303, u304, u305, u306, t307], []⟩ w')
    (hRt : ∀ (a : Act) (w' : World) (e : Int) (n : Nat), er = e → num = (n : Int) → e ≠ 0 → a.tmps[4]? = some (.pointer (some ⟨w.heap.size + 1 + 1, 0, none⟩)) → a.defers = [] → w'.heap[w.heap.size + 1 + 1]? = some (.cells #[.int .i64 e, .int .i64 (kk : Int), .int .i64 (n : Int)] 28 (0, 0)) → w.grownBy w' none → Q .ret a w')
    (o3 : (op == 3) = true) (o24 : (op == 24) = false) (o25 : (op == 25) = false) (o31 : (op == 31) = false) (o30 : (op == 30) = false) (o32 : (op == 32) = false) (o4 : (op == 4) = false) (o21 : (op == 21) = false) (o22 : (op == 22) = false) (han : an < c.u.locals.length) (hhas : k.fl.has an = true) :
    Code.wp Try.prog body2 (Exit.then K Q) ⟨#[t0, t1, .pointer (some ⟨w.heap.size, 0, none⟩), .pointer (some ⟨w.heap.size + 1, 0, none⟩), .pointer (some ⟨w.heap.size + 1 + 1, 0, none⟩), .pointer (some ⟨w.heap.size + 1 + 1 + 1, 0, none⟩), .slice (some ⟨w.heap.size + 1 + 1 + 1 + 1, 0, none⟩) c.u.code.length c.u.code.length, t7, t8, rv, t10, t11, t12, t13, t14, t15, t16, t17, t18, t19, t20, t21, t22, t23, t24, t25, t26, t27, t28, t29, t30, t31, t32, t33, t34, t35, t36, t37, t38, t39, t40, t41, t42, t43, t44, t45, t46, t47, t48, t49, t50, t51, t52, t53, t54, t55, t56, t57, t58, t59, t60, t61, t62, t63, t64, t65, t66, t67, t68, t69, t70, t71, t72, t73, t74, t75, t76, t77, t78, t79, t80, t81, t82, t83, t84, t85, t86, t87, t88, t89, t90, t91, t92, t93, t94, t95, t96, t97, t98, t99, t100, t101, t102, t103, t104, t105, t106, t107, t108, t109, t110, t111, t112, t113, t114, t115, t116, t117, t118, t119, t120, t121, t122, t123, t124, t125, t126, t127, t128, t129, t130, t131, t132, t133, t134, t135, t136, t137, t138, t139, t140, t141, t142, t143, t144, t145, t146, t147, t148, t149, t150, t151, t152, t153, t154, t155, t156, t157, t158, t159, t160, t161, t162, t163, t164, t165, t166, t167, t168, t169, t170, t171, t172, t173, t174, t175, t176, t177, t178, t179, t180, t181, t182, t183, t184, t185, t186, t187, t188, t189, t190, t191, t192, t193, t194, t195, t196, t197, t198, t199, t200, t201, t202, t203, t204, t205, t206, t207, t208, t209, t210, t211, t212, t213, t214, t215, t216, t217, t218, t219, t220, t221, t222, t223, t224, t225, t226, t227, t228, t229, t230, t231, t232, t233, t234, t235, t236, t237, t238, t239, t240, t241, t242, t243, t244, t245, t246, t247, t248, t249, t250, t251, t252, t253, t254, t255, t256, t257, t258, t259, t260, t261, t262, t263, t264, t265, t266, t267, t268, t269, t270, t271, t272, t273, t274, t275, t276, t277, t278, t279, t280, t281, t282, t283, t284, t285, t286, t287, t288, t289, t290, t291, t292, t293, t294, t295, t296, t297, t298, t299, t300, t301, t302, t303, t304, t305, t306, t307], []⟩ wr := by
  have hmf : ∀ (fn : Fn) (first cap : Array Value) (w : World), (Instr.makeFunc fn first cap).run Try.prog w = .ok (.func fn first cap) w := fun _ _ _ _ => rfl
  have hu1 := hmd
  have hu2 := hz6
  have hu3 := hm
  clear hu1 hu2 hu3
  have hmu := hR.out.units
  have HFE : Hid (Vf.formE c.m c.u ⟨op, (an : Int), nn⟩ = 0) := hfo.out _ (List.mem_of_getElem? hx.out)
  have HOK : Hid (OkS c.m k.st) := (hC.out.inv.come n k hk.out).2
  have HRQ : Hid (Vf.rreck c.m c.u ⟨op, (an : Int), nn⟩ k = Vf.lmap (Vf.reckS c.m c.u ⟨op, (an : Int), nn⟩ k)) := Vf.rreck_eq hR.out hhd.out HFE.out HOK.out
  have n24 : Hid (¬ op = 24) := by unfold Hid; simpa using o24
  have n25 : Hid (¬ op = 25) := by unfold Hid; simpa using o25
  have n31 : Hid (¬ op = 31) := by unfold Hid; simpa using o31
  have n30 : Hid (¬ op = 30) := by unfold Hid; simpa using o30
  have n32 : Hid (¬ op = 32) := by unfold Hid; simpa using o32
  have n4 : Hid (¬ op = 4) := by unfold Hid; simpa using o4
  have n21 : Hid (¬ op = 21) := by unfold Hid; simpa using o21
  have n22 : Hid (¬ op = 22) := by unfold Hid; simpa using o22
  have y3 : Hid (op = 3) := by unfold Hid; simpa using o3
  have HHAS := hide hhas
  have hani : (an : Int) < (c.u.locals.length : Int) := by omega
  have HN3 : Hid (¬ (op = 3 ∧ k.fl.has (an : Int).toNat = false)) := fun h => by have h2 := h.2; rw [Int.toNat_natCast, HHAS.out] at h2; cases h2
  have HEA : Hid (¬ Vf.early c.u ⟨op, (an : Int), nn⟩) := Vf.early_no n24.out n25.out n31.out
  have HND : Hid (Vf.rneed c.m c.u ⟨op, (an : Int), nn⟩ k.st = .ok (Vf.needs c.m c.u ⟨op, (an : Int), nn⟩)) := by
    unfold Hid Vf.rneed
    rw [if_neg n30.out, if_neg n32.out]
  have HK := hide hK
  have HRT := hide hRt
  clear hK hRt
  obtain ⟨g, off, cap, rv', hrv, cx, hgl, hgB, hq', hown, hsl1, hsl2⟩ := row_tail hC.out.q
  subst hrv
  obtain ⟨a3, c3, hform⟩ := hq'.form
  subst hform
  obtain ⟨s1, v1, d0, d1, d2, hs1, hbr, hbl, _⟩ := hC.out.se.yes hn (Vf.cm_some hk.out)
  obtain ⟨a1, c1, hv1⟩ := br_form hbr (Vf.bl_len _ _)
  subst hv1
  have HBR := hide hbr
  have HS1 := hide hs1
  obtain ⟨_, _, _, bC, oC, hac, hbC, e0, e1, e2⟩ := (hun.out.low (low0 hC.out.cd.grown hB)).code n ⟨op, (an : Int), nn⟩ hx.out
  have HAC := hide hac
  have q5 := (un_cells2 hC.out.cd.ub).2.2.2.2.2
  rw [hac] at q5
  have lW := hC.out.cd.lt
  have lS := hC.out.se.lt
  have lS1 : w.heap.size + 1 + 1 + 1 + 1 < wr.heap.size + 1 := by omega
  have lS2 : w.heap.size + 1 + 1 + 1 + 1 < wr.heap.size + 1 + 1 := by omega
  have lC : bC < wr.heap.size := by omega
  have lC1 : bC < wr.heap.size + 1 := by omega
  have hni : (n : Int) < (c.u.code.length : Int) := by omega
  have hr0 : (0 : Int) < (row.length : Int) + 1 := by omega
  have HQ' := hide hq'
  have HOWN := hide hown
  clear hbr hs1 hac hq' hown
  conv => arg 2; whnf
  go_wp2_with (at_builtin; refine wpList_append_bools rfl _ _ rfl (wr.heap.size + 1 + 1) (w.heap.size + 1 + 1 + 1 + 1) rfl (new2 _ _ _ _) _ (Vf.bl c.u.locals.length k.fl) rfl (br_grown HBR.out (grown0_new (two_new _ _ _) _)) (by rw [Vf.bl_len]; exact hz1) ?_; intro v2 w2 hb2 hgg2; obtain ⟨a2, c2, hv2⟩ := br_form hb2 (Vf.bl_len _ _); subst hv2; have HX := hide (rx_start hC.out HQ'.out HOWN.out hgl hm3.out hgg2 hb2); obtain ⟨m0, m1, _⟩ := am_cells HX.out.cd.mb; obtain ⟨q0, q1, q2, q3, q4, q5'⟩ := un_cells2 HX.out.cd.ub; obtain ⟨i0, i1, i2⟩ := in_cells HX.out.ib; have aa := one_cells HX.out.ab; have lW' := HX.out.cd.lt; have lA := lt_of_block HX.out.ab; have lI := lt_of_block HX.out.ib; obtain ⟨s1', v1', d0', d1', d2', hs1', _⟩ := HX.out.se.yes hn (Vf.cm_some hk.out); have lS3 := HX.out.se.lt; clear hb2 hgg2 cx d0 d1 d2 q5 lW lS lS1 lS2 lC lC1 e0 e1 e2 hsl1 hsl2; obtain ⟨g2, cp2, hg2e, _, hg2l, cnow, fnow⟩ := br_cell HX.out.now (Vf.bl_at k.fl han); rw [Vf.bl_len] at hg2e; cases hg2e; rw [HHAS.out] at cnow)
  have HG0 := hide HX.out.cd.grown
  refine (rneeds_any c.m c.ab c.au c.cb c.cu B c.u c.al c.ac c.cl c.cc op (an : Int) nn _ (hide (hmd.out.low (low0 HG0.out hB))) (hide (hun.out.low (low0 HG0.out hB))) (by omega) hR hhd HFE HEA).mono ?_
  rintro e w3 ⟨⟨sw, sp, hsw, hsp, rfl⟩, hg3⟩
  dsimp only
  have HX3 := hide (HX.out.next hg3)
  have HSW := hide hsw
  have HSP := hide hsp
  clear m0 m1 q0 q1 q2 q3 q4 q5' i0 i1 i2 aa lW' lA lI d0' d1' d2' lS3 hg3 hsw hsp HG0
  obtain ⟨q0, q1, q2, q3, q4, q5'⟩ := un_cells2 HX3.out.cd.ub
  obtain ⟨i0, i1, i2⟩ := in_cells HX3.out.ib
  have aa := one_cells HX3.out.ab
  have lW' := HX3.out.cd.lt
  have lA := lt_of_block HX3.out.ab
  have lI := lt_of_block HX3.out.ib
  go_wp2_with fail
  obtain ⟨R, hRd⟩ : ∃ R, R = Vf.rtk (Vf.needs c.m c.u ⟨op, (an : Int), nn⟩).1.reverse (k.st.map Vf.ltr) 0 := ⟨_, rfl⟩
  have HRD := hide hRd
  have hfw := needs_few (x := ⟨op, (an : Int), nn⟩) hR.out HFE.out
  have hz3 : s1'.size ≤ 1000 := by rw [← list_size, hs1']; have := HOK.out.2; simp; omega
  have hz4 : sw.size ≤ 1000 := by rw [← list_size, HSW.out]; omega
  have hzp : sp.size ≤ 1 := by rw [← list_size, HSP.out]; exact hfw.2
  have HRG : Hid (Vf.rreck c.m c.u ⟨op, (an : Int), nn⟩ k = Vf.andThen R fun r => Vf.rput ⟨op, (an : Int), nn⟩ (Vf.needs c.m c.u ⟨op, (an : Int), nn⟩).2 r) := by
    unfold Hid
    rw [hRd]
    exact rreck_go HN3.out HEA.out HND.out
  clear hRd hfw
  refine (rtake_any s1' sw (k.st.map Vf.ltr) (Vf.needs c.m c.u ⟨op, (an : Int), nn⟩).1.reverse _ (hide hs1') (hide (by rw [HSW.out]; simp)) hz3 hz4 R HRD).mono ?_
  rintro e w4 ⟨hrk, rfl⟩
  cases R with
  | error e' =>
    obtain rfl : e = _ := hrk
    dsimp only
    have HRE : Hid (Vf.rreck c.m c.u ⟨op, (an : Int), nn⟩ k = .error e') := HRG.out
    have HE : Hid (DD c er num n f (Vf.mu c.u.code.length ⟨come, row⟩) (.error e')) := rr_bad hD.out HRQ.out HRE.out
    have hnz : e' ≠ 0 := by
      have h1 := HRE.out
      rw [HRQ.out] at h1
      exact reckS_nz _ _ _ _ e' (lmap_err h1)
    have enz : (e' != 0) = true := by simpa using hnz
    go_wp2_with fail
    refine (rbad_any (w.heap.size + 1) wr.heap.size e' (kk : Int) (n : Int) _ (hide (one_cells HX3.out.cd.kb)) (hide (one_cells HX3.out.ab)) (by omega) (lt_of_block HX3.out.ab)).mono ?_
    rintro e w9 ⟨rfl, hg9⟩
    dsimp only
    have HW9 : Hid (w9.heap[w.heap.size + 1 + 1]? = some whZ) := (kept0 hg9 (lt_of_block HX3.out.cd.wz)).trans HX3.out.cd.wz
    have HG9 : Hid (w.grownBy w9 none) := grown0_tr' HX3.out.cd.grown hg9
    clear q0 q1 q2 q3 q4 q5' i0 i1 i2 aa lA lI
    obtain ⟨⟨z0, z1, z2⟩, y0, y1, y2⟩ := wh_cells HW9.out
    have hz9 := lt_of_block HW9.out
    clear hg9
    go_wp2
    exact HRT.out _ _ e' n HE.out.1 HE.out.2 hnz rfl rfl (wh_set HW9.out _ _ _) (grown0_setN (grown0_setN (grown0_setN HG9.out (by omega) _ _) (by omega) _ _) (by omega) _ _)
  | ok l =>
    obtain ⟨s2, hs2, rfl⟩ := hrk
    dsimp only
    have hz5 : s2.size ≤ 1000 := by
      have h1 := HRD.out
      rw [← list_size, hs2]
      have := rtk_len _ _ _ _ h1.symm
      have h2 := HOK.out.2
      rw [List.length_map] at this
      rw [List.length_reverse]
      omega
    have hzz : ¬ 9223372036854775807 < s2.size + sp.size := by omega
    obtain ⟨s3, hs3⟩ : ∃ s3, s2 ++ sp = s3 := ⟨_, rfl⟩
    have HS3 : Hid (s3.data.toList = ((Vf.needs c.m c.u ⟨op, (an : Int), nn⟩).2.reverse ++ l).reverse) := by
      unfold Hid
      rw [← hs3, ByteArray.data_append]
      simp [hs2, HSP.out]
    have hsz3 : s3.size = ((Vf.needs c.m c.u ⟨op, (an : Int), nn⟩).2.reverse ++ l).length := by rw [← list_size, HS3.out, List.length_reverse]
    have HRP : Hid (Vf.rreck c.m c.u ⟨op, (an : Int), nn⟩ k = Vf.rput ⟨op, (an : Int), nn⟩ (Vf.needs c.m c.u ⟨op, (an : Int), nn⟩).2 l) := HRG.out
    by_cases h300 : 300 < s3.size
    · have d300 : decide ((300 : Int) < (s3.size : Int)) = true := by simp; omega
      have HE : Hid (DD c er num n f (Vf.mu c.u.code.length ⟨come, row⟩) (.error 4)) := rr_bad hD.out HRQ.out (by rw [HRP.out, rput_split, if_pos (by rw [← hsz3]; exact h300)])
      clear h300 hsz3
      go_wp2_with fail
      refine (rbad_any (w.heap.size + 1) wr.heap.size 4 (kk : Int) (n : Int) _ (hide (one_cells HX3.out.cd.kb)) (hide (one_cells HX3.out.ab)) (by omega) (lt_of_block HX3.out.ab)).mono ?_
      rintro e w9 ⟨rfl, hg9⟩
      dsimp only
      have HW9 : Hid (w9.heap[w.heap.size + 1 + 1]? = some whZ) := (kept0 hg9 (lt_of_block HX3.out.cd.wz)).trans HX3.out.cd.wz
      have HG9 : Hid (w.grownBy w9 none) := grown0_tr' HX3.out.cd.grown hg9
      clear q0 q1 q2 q3 q4 q5' i0 i1 i2 aa lA lI
      obtain ⟨⟨z0, z1, z2⟩, y0, y1, y2⟩ := wh_cells HW9.out
      have hz9 := lt_of_block HW9.out
      clear hg9
      go_wp2
      exact HRT.out _ _ 4 n HE.out.1 HE.out.2 (by decide) rfl rfl (wh_set HW9.out _ _ _) (grown0_setN (grown0_setN (grown0_setN HG9.out (by omega) _ _) (by omega) _ _) (by omega) _ _)
    · have d300 : decide ((300 : Int) < (s3.size : Int)) = false := by simp; omega
      have HRP2 : Hid (Vf.rreck c.m c.u ⟨op, (an : Int), nn⟩ k = if (op = 24 ∨ op = 25) ∧ (Vf.needs c.m c.u ⟨op, (an : Int), nn⟩).2.reverse ++ l ≠ [] then .error 12 else .ok ((Vf.needs c.m c.u ⟨op, (an : Int), nn⟩).2.reverse ++ l)) := by
        unfold Hid
        rw [HRP.out, rput_split, if_neg (by rw [← hsz3]; exact h300)]
      clear h300 HRP hsz3
      go_wp2_with fail
      have HGS : Hid (Vf.goes ⟨op, (an : Int), nn⟩ n = [(n : Int) + 1]) := by
        unfold Hid Vf.goes
        rw [if_neg (by show ¬ (op = 24 ∨ op = 25); have := n24.out; have := n25.out; omega), if_neg n21.out, if_neg n22.out]
      have HRO : Hid (Vf.rreck c.m c.u ⟨op, (an : Int), nn⟩ k = .ok ((Vf.needs c.m c.u ⟨op, (an : Int), nn⟩).2.reverse ++ l)) := by
        unfold Hid
        rw [HRP2.out, if_neg (fun hh => by have := n24.out; have := n25.out; omega)]
      obtain ⟨st', hst', hrk', hD'⟩ := rr_ok hD.out HRQ.out HRO.out
      have HD : Hid (DD c er num n f (Vf.mu c.u.code.length ⟨come, row⟩) (Vf.goAll c.u.code.length ⟨st', Vf.reckF ⟨op, (an : Int), nn⟩ k.fl⟩ [(n : Int) + 1] ⟨come, row⟩)) := by
        unfold Hid
        rw [← HGS.out]
        exact hD'
      have HOK' : Hid (OkS c.m st') := reck_ok hR.out hhd.out HFE.out HOK.out hrk'
      have HSB : Hid (s3.data.toList = (st'.map Vf.ltr).reverse) := by
        unfold Hid
        rw [HS3.out, hst']
      have hfl : Vf.reckF ⟨op, (an : Int), nn⟩ k.fl = k.fl := by
        unfold Vf.reckF
        rw [if_neg n4.out]
      rw [hfl] at HD
      have HFK : Hid (Vf.FlOk c.u.locals.length (k.fl)) := (hC.out.flg n k hk.out)
      have HL3 : Hid (L3 c kk wr.heap.size w4.heap.size (wr.heap.size + 1 + 1) n (.slice (some ⟨g2, 0, none⟩) c.u.locals.length c2) [(n : Int) + 1] ⟨st', k.fl⟩ w ⟨come, row⟩ (.slice a3 row.length c3) 0 (w4.alloc (.cells #[.int .i64 ((n : Int) + 1)] 3))) := (HX3.out.next (grown0_new (World.grownBy.refl _ _) _)).l3 (fun _ => heap_alloc_new _ _) (fun b hb => by have := HX3.out.qa b hb; omega)
      have hmx := hm.out
      have hm4 := hm3.out
      rw [Vf.mu_row] at hmx hm4
      have HMX := hide hmx
      have HM4 := hide hm4
      clear hst' hrk' hD' hfl hmx hm4
      refine wp_loop_rounds (c := body3) 3 (loop3 c kk wr.heap.size w4.heap.size (wr.heap.size + 1 + 1) n (.slice (some ⟨g2, 0, none⟩) c.u.locals.length c2) (.slice (some ⟨w4.heap.size, 0, none⟩) 1 1) s3 [(n : Int) + 1] ⟨st', k.fl⟩ w (DD c er num n f (Vf.mu c.u.code.length ⟨come, row⟩)) HSB HOK' HFK (hide (fun t ht => by simp at ht; subst ht; omega)) (hide (fun _ => rfl)) (by simp) hz1 hmu _ _ _ _ _ _ _ _ _ _ _ _ _ _ _ _ _ _ _ _ _ _ _ _ _ _ _ _ _ _ _ _ _ _ _ _ _ _ _ _ _ _ _ _ _ _ _ _ _ _ _ _ _ _ _ _ _ _ _ _ _ _ _ _ _ _ _ _ _ _ _ _ _ _ _ _ _ _ _ _ _ _ _ _ _ _ _ _ _ _ _ _ _ _ _ _ _ _ _ _ _ _ _ _ _ _ _ _ _ _ _ _ _ _ _ _ _ _ _ _ _ _ _ _ _ _ _ _ _ _ _ _ _ _ _ _ _ _ _ _ _ _ _ _ _ _ _ _ _ _ _ _ _ _ _ _ _ _ _ _ _ _ _ _ _ _ _ _ _ _ _ _ _ _ _ _ _ _ _ _ _ _ _ _ _ _ _ _ _ _ _ _ _ _ _ _ _ _ _ _ _ _ _ _ _ _ _ _ _ _ _ _ _ _ _ _ _ _ _ _ _ ?_ ?_ 3 _ _ _ _ _ _ _ _ _ _ _ _ _ _ _ _ _ _ _ _ _ _ _ _ _ _ _ _ _ _ _ _ _ _ _ _ _ _ _ _ _ _ _ _ _ _ _ _ _ _ _ _ _ _ _ _ _ _ _ _ _ _ _ _ _ _ _ _ _ _ _ _ _ _ _ _ ⟨come, row⟩ (.slice a3 row.length c3) 0 _ (by simp) HL3.out HD.out)
      · intro x24 x25 x26 x27 x234 x235 x236 x237 x238 x239 x240 x241 x242 x243 x244 x245 x246 x247 x248 x249 x250 x251 x252 x253 x254 x255 x256 x257 x258 x259 x260 x261 x262 x263 x264 x265 x266 x267 x268 x269 x270 x271 x272 x273 x274 x275 x276 x277 x278 x279 x280 x281 x282 x283 x284 x285 x286 x287 x288 x289 x290 x291 x292 x293 x294 x295 x296 x297 x298 x299 x300 x301 x302 x303 x304 x305 x306 s' rv' w' hL hd
        have HLe := hide hL
        have HDe := hide hd
        clear hL hd
        go_wp2
        exact HK.out _ _ _ _ _ _ _ _ _ _ _ _ _ _ _ _ _ _ _ _ _ _ _ _ _ _ _ _ _ _ _ _ _ _ _ _ _ _ _ _ _ _ _ _ _ _ _ _ _ _ _ _ _ _ _ _ _ _ _ _ _ _ _ _ _ _ _ _ _ _ _ _ _ _ _ _ _ _ _ _ _ _ _ _ _ _ _ _ _ _ _ _ _ _ _ _ _ _ _ _ _ _ _ _ _ _ _ _ _ _ _ _ _ _ _ _ _ _ _ _ _ _ _ _ _ _ _ _ _ _ _ _ _ _ _ _ _ _ _ _ _ _ _ _ _ _ _ _ _ _ _ _ _ _ _ _ _ _ _ _ _ _ _ _ _ _ _ _ _ _ _ _ _ _ _ _ _ _ _ _ _ _ _ _ _ _ _ _ _ _ _ _ _ _ _ _ _ _ _ _ _ _ _ _ _ _ _ _ _ _ _ _ _ _ _ _ _ _ _ _ _ _ _ _ _ _ _ _ _ _ _ _ _ _ _ _ _ _ _ _ _ _ _ _ _ _ _ _ _ _ _ _ _ _ _ _ _ _ _ _ _ _ _ _ _ _ _ _ _ _ rv' _ ⟨s', ⟨HLe.out.cd, HLe.out.se.forget, HLe.out.q, HLe.out.inv, HLe.out.flg⟩, by have := HDe.out.2; have := HMX.out; omega, by have := HDe.out.2; have := HM4.out; omega, HDe.out.1⟩
      · intro a' w' e' hd hne h4 hdf hce hgr
        exact HRT.out a' w' e' n hd.1 hd.2 hne h4 hdf hce hgr



set_option maxRecDepth 1000000 in
set_option maxHeartbeats 8000000 in
theorem round2_E3 (t0 t1 t7 t8 t10 t11 t12 t13 t14 t15 t16 t17 t18 t19 t20 t21 t22 t23 t24 t25 t26 t27 t28 t29 t30 t31 t32 t33 t34 t35 t36 t37 t38 t39 t40 t41 t42 t43 t44 t45 t46 t47 t48 t49 t50 t51 t52 t53 t54 t55 t56 t57 t58 t59 t60 t61 t62 t63 t64 t65 t66 t67 t68 t69 t70 t71 t72 t73 t74 t75 t76 t77 t78 t79 t80 t81 t82 t83 t84 t85 t86 t87 t88 t89 t90 t91 t92 t93 t94 t95 t96 t97 t98 t99 t100 t101 t102 t103 t104 t105 t106 t107 t108 t109 t110 t111 t112 t113 t114 t115 t116 t117 t118 t119 t120 t121 t122 t123 t124 t125 t126 t127 t128 t129 t130 t131 t132 t133 t134 t135 t136 t137 t138 t139 t140 t141 t142 t143 t144 t145 t146 t147 t148 t149 t150 t151 t152 t153 t154 t155 t156 t157 t158 t159 t160 t161 t162 t163 t164 t165 t166 t167 t168 t169 t170 t171 t172 t173 t174 t175 t176 t177 t178 t179 t180 t181 t182 t183 t184 t185 t186 t187 t188 t189 t190 t191 t192 t193 t194 t195 t196 t197 t198 t199 t200 t201 t202 t203 t204 t205 t206 t207 t208 t209 t210 t211 t212 t213 t214 t215 t216 t217 t218 t219 t220 t221 t222 t223 t224 t225 t226 t227 t228 t229 t230 t231 t232 t233 t234 t235 t236 t237 t238 t239 t240 t241 t242 t243 t244 t245 t246 t247 t248 t249 t250 t251 t252 t253 t254 t255 t256 t257 t258 t259 t260 t261 t262 t263 t264 t265 t266 t267 t268 t269 t270 t271 t272 t273 t274 t275 t276 t277 t278 t279 t280 t281 t282 t283 t284 t285 t286 t287 t288 t289 t290 t291 t292 t293 t294 t295 t296 t297 t298 t299 t300 t301 t302 t303 t304 t305 t306 t307 : Value) (c : FC) (B kk n : Nat) (w : World) (hmd : Hid (ModIn B w c.m c.ab c.au)) (hun : Hid (UnIn B w c.u c.al c.ac c.cl c.cc)) (hB : B ≤ w.heap.size) (hR : Hid (Rt c.m)) (hhd : Hid (Vf.headE c.m c.u = 0)) (hfo : Hid (Vf.Forms c.m c.u)) (hz1 : c.u.locals.length ≤ 200) (hz6 : c.u.code.length ≤ 4000) (er num : Int) (f : Nat) (come : Nat → Option Vf.Kn) (row : List Nat) (rv : Value) (wr : World) (k : Vf.Kn) (op nn : Int) (an : Nat) (hn : n < c.u.code.length) (hk : Hid (come n = some k)) (hx : Hid (c.u.code[n]? = some ⟨op, (an : Int), nn⟩)) (hC : Hid (CoAt c kk w ⟨come, n :: row⟩ rv wr)) (hm : Hid (Vf.mu c.u.code.length ⟨come, n :: row⟩ < f + 1)) (hm3 : Hid (Vf.mu c.u.code.length ⟨come, n :: row⟩ ≤ 3000000)) (hD : Hid (DD c er num n f (Vf.mu c.u.code.length ⟨come, row⟩) (Vf.andThen (Vf.reck c.m c.u ⟨op, (an : Int), nn⟩ k) fun k' => Vf.goAll c.u.code.length k' (Vf.goes ⟨op, (an : Int), nn⟩ n) ⟨come, row⟩))) (K : Act → World → Prop) (Q : Exit → Act → World → Prop)
    (hK : ∀ (u10 u11 u12 u13 u14 u15 u16 u17 u18 u19 u20 u21 u22 u23 u24 u25 u26 u27 u55 u56 u57 u58 u59 u60 u61 u62 u63 u64 u65 u66 u67 u68 u69 u70 u71 u72 u73 u74 u75 u76 u77 u78 u79 u80 u81 u82 u83 u84 u85 u86 u87 u88 u89 u90 u91 u92 u93 u94 u95 u96 u97 u98 u99 u100 u101 u102 u103 u104 u105 u106 u107 u108 u109 u110 u111 u112 u113 u114 u115 u116 u117 u118 u119 u120 u121 u122 u123 u124 u125 u126 u127 u128 u129 u130 u131 u132 u133 u134 u135 u136 u137 u138 u139 u140 u141 u142 u143 u144 u145 u146 u147 u148 u149 u150 u151 u152 u153 u154 u155 u156 u157 u158 u159 u160 u161 u162 u163 u164 u165 u166 u167 u168 u169 u170 u171 u172 u173 u174 u175 u176 u177 u178 u179 u180 u181 u182 u183 u184 u185 u186 u187 u188 u189 u190 u191 u192 u193 u194 u195 u196 u197 u198 u199 u200 u201 u202 u203 u204 u205 u206 u207 u208 u209 u210 u211 u212 u213 u214 u215 u216 u217 u218 u219 u220 u221 u222 u223 u224 u225 u226 u227 u228 u229 u230 u231 u232 u233 u234 u235 u236 u237 u238 u239 u240 u241 u242 u243 u244 u245 u246 u247 u248 u249 u250 u251 u252 u253 u254 u255 u256 u257 u258 u259 u260 u261 u262 u263 u264 u265 u266 u267 u268 u269 u270 u271 u272 u273 u274 u275 u276 u277 u278 u279 u280 u281 u282 u283 u284 u285 u286 u287 u288 u289 u290 u291 u292 u293 u294 u295 u296 u297 u298 u299 u300 u301 u302 u303 u304 u305 u306 : Value) (rv : Value) (w' : World), CdG c kk w er num f rv w' → K ⟨#[t0, t1, .pointer (some ⟨w.heap.size, 0, none⟩), .pointer (some ⟨w.heap.size + 1, 0, none⟩), .pointer (some ⟨w.heap.size + 1 + 1, 0, none⟩), .pointer (some ⟨w.heap.size + 1 + 1 + 1, 0, none⟩), .slice (some ⟨w.heap.size + 1 + 1 + 1 + 1, 0, none⟩) c.u.code.length c.u.code.length, t7, t8, rv, u10, u11, u12, u13, u14, u15, u16, u17, u18, u19, u20, u21, u22, u23, u24, u25, u26, u27, t28, t29, t30, t31, t32, t33, t34, t35, t36, t37, t38, t39, t40, t41, t42, t43, t44, t45, t46, t47, t48, t49, t50, t51, t52, t53, t54, u55, u56, u57, u58, u59, u60, u61, u62, u63, u64, u65, u66, u67, u68, u69, u70, u71, u72, u73, u74, u75, u76, u77, u78, u79, u80, u81, u82, u83, u84, u85, u86, u87, u88, u89, u90, u91, u92, u93, u94, u95, u96, u97, u98, u99, u100, u101, u102, u103, u104, u105, u106, u107, u108, u109, u110, u111, u112, u113, u114, u115, u116, u117, u118, u119, u120, u121, u122, u123, u124, u125, u126, u127, u128, u129, u130, u131, u132, u133, u134, u135, u136, u137, u138, u139, u140, u141, u142, u143, u144, u145, u146, u147, u148, u149, u150, u151, u152, u153, u154, u155, u156, u157, u158, u159, u160, u161, u162, u163, u164, u165, u166, u167, u168, u169, u170, u171, u172, u173, u174, u175, u176, u177, u178, u179, u180, u181, u182, u183, u184, u185, u186, u187, u188, u189, u190, u191, u192, u193, u194, u195, u196, u197, u198, u199, u200, u201, u202, u203, u204, u205, u206, u207, u208, u209, u210, u211, u212, u213, u214, u215, u216, u217, u218, u219, u220, u221, u222, u223, u224, u225, u226, u227, u228, u229, u230, u231, u232, u233, u234, u235, u236, u237, u238, u239, u240, u241, u242, u243, u244, u245, u246, u247, u248, u249, u250, u251, u252, u253, u254, u255, u256, u257, u258, u259, u260, u261, u262, u263, u264, u265, u266, u267, u268, u269, u270, u271, u272, u273, u274, u275, u276, u277, u278, u279, u280, u281, u282, u283, u284, u285, u286, u287, u288, u289, u290, u291, u292, u293, u294, u295, u296, u297, u298, u299, u300, u301, u302, u303, u304, u305, u306, t307], []⟩ w')
    (hRt : ∀ (a : Act) (w' : World) (e : Int) (n : Nat), er = e → num = (n : Int) → e ≠ 0 → a.tmps[4]? = some (.pointer (some ⟨w.heap.size + 1 + 1, 0, none⟩)) → a.defers = [] → w'.heap[w.heap.size + 1 + 1]? = some (.cells #[.int .i64 e, .int .i64 (kk : Int), .int .i64 (n : Int)] 28 (0, 0)) → w.grownBy w' none → Q .ret a w')
    (o3 : (op == 3) = true) (o24 : (op == 24) = false) (o25 : (op == 25) = false) (o31 : (op == 31) = false) (o30 : (op == 30) = false) (o32 : (op == 32) = false) (o4 : (op == 4) = false) (o21 : (op == 21) = false) (o22 : (op == 22) = false) (han : an < c.u.locals.length) (hhas : k.fl.has an = false) :
    Code.wp Try.prog body2 (Exit.then K Q) ⟨#[t0, t1, .pointer (some ⟨w.heap.size, 0, none⟩), .pointer (some ⟨w.heap.size + 1, 0, none⟩), .pointer (some ⟨w.heap.size + 1 + 1, 0, none⟩), .pointer (some ⟨w.heap.size + 1 + 1 + 1, 0, none⟩), .slice (some ⟨w.heap.size + 1 + 1 + 1 + 1, 0, none⟩) c.u.code.length c.u.code.length, t7, t8, rv, t10, t11, t12, t13, t14, t15, t16, t17, t18, t19, t20, t21, t22, t23, t24, t25, t26, t27, t28, t29, t30, t31, t32, t33, t34, t35, t36, t37, t38, t39, t40, t41, t42, t43, t44, t45, t46, t47, t48, t49, t50, t51, t52, t53, t54, t55, t56, t57, t58, t59, t60, t61, t62, t63, t64, t65, t66, t67, t68, t69, t70, t71, t72, t73, t74, t75, t76, t77, t78, t79, t80, t81, t82, t83, t84, t85, t86, t87, t88, t89, t90, t91, t92, t93, t94, t95, t96, t97, t98, t99, t100, t101, t102, t103, t104, t105, t106, t107, t108, t109, t110, t111, t112, t113, t114, t115, t116, t117, t118, t119, t120, t121, t122, t123, t124, t125, t126, t127, t128, t129, t130, t131, t132, t133, t134, t135, t136, t137, t138, t139, t140, t141, t142, t143, t144, t145, t146, t147, t148, t149, t150, t151, t152, t153, t154, t155, t156, t157, t158, t159, t160, t161, t162, t163, t164, t165, t166, t167, t168, t169, t170, t171, t172, t173, t174, t175, t176, t177, t178, t179, t180, t181, t182, t183, t184, t185, t186, t187, t188, t189, t190, t191, t192, t193, t194, t195, t196, t197, t198, t199, t200, t201, t202, t203, t204, t205, t206, t207, t208, t209, t210, t211, t212, t213, t214, t215, t216, t217, t218, t219, t220, t221, t222, t223, t224, t225, t226, t227, t228, t229, t230, t231, t232, t233, t234, t235, t236, t237, t238, t239, t240, t241, t242, t243, t244, t245, t246, t247, t248, t249, t250, t251, t252, t253, t254, t255, t256, t257, t258, t259, t260, t261, t262, t263, t264, t265, t266, t267, t268, t269, t270, t271, t272, t273, t274, t275, t276, t277, t278, t279, t280, t281, t282, t283, t284, t285, t286, t287, t288, t289, t290, t291, t292, t293, t294, t295, t296, t297, t298, t299, t300, t301, t302, t303, t304, t305, t306, t307], []⟩ wr := by
  have hmf : ∀ (fn : Fn) (first cap : Array Value) (w : World), (Instr.makeFunc fn first cap).run Try.prog w = .ok (.func fn first cap) w := fun _ _ _ _ => rfl
  have hu1 := hmd
  have hu2 := hz6
  have hu3 := hm
  clear hu1 hu2 hu3
  have hmu := hR.out.units
  have HFE : Hid (Vf.formE c.m c.u ⟨op, (an : Int), nn⟩ = 0) := hfo.out _ (List.mem_of_getElem? hx.out)
  have HOK : Hid (OkS c.m k.st) := (hC.out.inv.come n k hk.out).2
  have HRQ : Hid (Vf.rreck c.m c.u ⟨op, (an : Int), nn⟩ k = Vf.lmap (Vf.reckS c.m c.u ⟨op, (an : Int), nn⟩ k)) := Vf.rreck_eq hR.out hhd.out HFE.out HOK.out
  have n24 : Hid (¬ op = 24) := by unfold Hid; simpa using o24
  have n25 : Hid (¬ op = 25) := by unfold Hid; simpa using o25
  have n31 : Hid (¬ op = 31) := by unfold Hid; simpa using o31
  have n30 : Hid (¬ op = 30) := by unfold Hid; simpa using o30
  have n32 : Hid (¬ op = 32) := by unfold Hid; simpa using o32
  have n4 : Hid (¬ op = 4) := by unfold Hid; simpa using o4
  have n21 : Hid (¬ op = 21) := by unfold Hid; simpa using o21
  have n22 : Hid (¬ op = 22) := by unfold Hid; simpa using o22
  have y3 : Hid (op = 3) := by unfold Hid; simpa using o3
  have HHAS := hide hhas
  have hani : (an : Int) < (c.u.locals.length : Int) := by omega
  have HE : Hid (DD c er num n f (Vf.mu c.u.code.length ⟨come, row⟩) (.error 11)) := rr_bad hD.out HRQ.out (by unfold Vf.rreck; rw [if_pos ⟨y3.out, by rw [Int.toNat_natCast]; exact HHAS.out⟩])
  have HK := hide hK
  have HRT := hide hRt
  clear hK hRt
  obtain ⟨g, off, cap, rv', hrv, cx, hgl, hgB, hq', hown, hsl1, hsl2⟩ := row_tail hC.out.q
  subst hrv
  obtain ⟨a3, c3, hform⟩ := hq'.form
  subst hform
  obtain ⟨s1, v1, d0, d1, d2, hs1, hbr, hbl, _⟩ := hC.out.se.yes hn (Vf.cm_some hk.out)
  obtain ⟨a1, c1, hv1⟩ := br_form hbr (Vf.bl_len _ _)
  subst hv1
  have HBR := hide hbr
  have HS1 := hide hs1
  obtain ⟨_, _, _, bC, oC, hac, hbC, e0, e1, e2⟩ := (hun.out.low (low0 hC.out.cd.grown hB)).code n ⟨op, (an : Int), nn⟩ hx.out
  have HAC := hide hac
  have q5 := (un_cells2 hC.out.cd.ub).2.2.2.2.2
  rw [hac] at q5
  have lW := hC.out.cd.lt
  have lS := hC.out.se.lt
  have lS1 : w.heap.size + 1 + 1 + 1 + 1 < wr.heap.size + 1 := by omega
  have lS2 : w.heap.size + 1 + 1 + 1 + 1 < wr.heap.size + 1 + 1 := by omega
  have lC : bC < wr.heap.size := by omega
  have lC1 : bC < wr.heap.size + 1 := by omega
  have hni : (n : Int) < (c.u.code.length : Int) := by omega
  have hr0 : (0 : Int) < (row.length : Int) + 1 := by omega
  have HQ' := hide hq'
  have HOWN := hide hown
  clear hbr hs1 hac hq' hown
  conv => arg 2; whnf
  go_wp2_with (at_builtin; refine wpList_append_bools rfl _ _ rfl (wr.heap.size + 1 + 1) (w.heap.size + 1 + 1 + 1 + 1) rfl (new2 _ _ _ _) _ (Vf.bl c.u.locals.length k.fl) rfl (br_grown HBR.out (grown0_new (two_new _ _ _) _)) (by rw [Vf.bl_len]; exact hz1) ?_; intro v2 w2 hb2 hgg2; obtain ⟨a2, c2, hv2⟩ := br_form hb2 (Vf.bl_len _ _); subst hv2; have HX := hide (rx_start hC.out HQ'.out HOWN.out hgl hm3.out hgg2 hb2); obtain ⟨m0, m1, _⟩ := am_cells HX.out.cd.mb; obtain ⟨q0, q1, q2, q3, q4, q5'⟩ := un_cells2 HX.out.cd.ub; obtain ⟨i0, i1, i2⟩ := in_cells HX.out.ib; have aa := one_cells HX.out.ab; have lW' := HX.out.cd.lt; have lA := lt_of_block HX.out.ab; have lI := lt_of_block HX.out.ib; obtain ⟨s1', v1', d0', d1', d2', hs1', _⟩ := HX.out.se.yes hn (Vf.cm_some hk.out); have lS3 := HX.out.se.lt; clear hb2 hgg2 cx d0 d1 d2 q5 lW lS lS1 lS2 lC lC1 e0 e1 e2 hsl1 hsl2; obtain ⟨g2, cp2, hg2e, _, hg2l, cnow, fnow⟩ := br_cell HX.out.now (Vf.bl_at k.fl han); rw [Vf.bl_len] at hg2e; cases hg2e; rw [HHAS.out] at cnow)
  go_wp2_with fail
  refine (rbad_any (w.heap.size + 1) wr.heap.size 11 (kk : Int) (n : Int) _ (hide (one_cells HX.out.cd.kb)) (hide (one_cells HX.out.ab)) (by omega) (lt_of_block HX.out.ab)).mono ?_
  rintro e w9 ⟨rfl, hg9⟩
  dsimp only
  have HW9 : Hid (w9.heap[w.heap.size + 1 + 1]? = some whZ) := (kept0 hg9 (lt_of_block HX.out.cd.wz)).trans HX.out.cd.wz
  have HG9 : Hid (w.grownBy w9 none) := grown0_tr' HX.out.cd.grown hg9
  clear q0 q1 q2 q3 q4 q5' i0 i1 i2 aa lA lI
  obtain ⟨⟨z0, z1, z2⟩, y0, y1, y2⟩ := wh_cells HW9.out
  have hz9 := lt_of_block HW9.out
  clear hg9
  go_wp2
  exact HRT.out _ _ 11 n HE.out.1 HE.out.2 (by decide) rfl rfl (wh_set HW9.out _ _ _) (grown0_setN (grown0_setN (grown0_setN HG9.out (by omega) _ _) (by omega) _ _) (by omega) _ _)
end Go.Proofs.Ytbkimpimoclobaa

/- The document's answer, chapter 7, walked: rounds of Code (B24, E24, E25). (Laid by tools/mkcode2.py.) -/
namespace Go.Proofs.Ytbkimpimoclobaa
open Go.RowKit



set_option maxRecDepth 1000000 in
set_option maxHeartbeats 8000000 in
theorem round2_B24 (t0 t1 t7 t8 t10 t11 t12 t13 t14 t15 t16 t17 t18 t19 t20 t21 t22 t23 t24 t25 t26 t27 t28 t29 t30 t31 t32 t33 t34 t35 t36 t37 t38 t39 t40 t41 t42 t43 t44 t45 t46 t47 t48 t49 t50 t51 t52 t53 t54 t55 t56 t57 t58 t59 t60 t61 t62 t63 t64 t65 t66 t67 t68 t69 t70 t71 t72 t73 t74 t75 t76 t77 t78 t79 t80 t81 t82 t83 t84 t85 t86 t87 t88 t89 t90 t91 t92 t93 t94 t95 t96 t97 t98 t99 t100 t101 t102 t103 t104 t105 t106 t107 t108 t109 t110 t111 t112 t113 t114 t115 t116 t117 t118 t119 t120 t121 t122 t123 t124 t125 t126 t127 t128 t129 t130 t131 t132 t133 t134 t135 t136 t137 t138 t139 t140 t141 t142 t143 t144 t145 t146 t147 t148 t149 t150 t151 t152 t153 t154 t155 t156 t157 t158 t159 t160 t161 t162 t163 t164 t165 t166 t167 t168 t169 t170 t171 t172 t173 t174 t175 t176 t177 t178 t179 t180 t181 t182 t183 t184 t185 t186 t187 t188 t189 t190 t191 t192 t193 t194 t195 t196 t197 t198 t199 t200 t201 t202 t203 t204 t205 t206 t207 t208 t209 t210 t211 t212 t213 t214 t215 t216 t217 t218 t219 t220 t221 t222 t223 t224 t225 t226 t227 t228 t229 t230 t231 t232 t233 t234 t235 t236 t237 t238 t239 t240 t241 t242 t243 t244 t245 t246 t247 t248 t249 t250 t251 t252 t253 t254 t255 t256 t257 t258 t259 t260 t261 t262 t263 t264 t265 t266 t267 t268 t269 t270 t271 t272 t273 t274 t275 t276 t277 t278 t279 t280 t281 t282 t283 t284 t285 t286 t287 t288 t289 t290 t291 t292 t293 t294 t295 t296 t297 t298 t299 t300 t301 t302 t303 t304 t305 t306 t307 : Value) (c : FC) (B kk n : Nat) (w : World) (hmd : Hid (ModIn B w c.m c.ab c.au)) (hun : Hid (UnIn B w c.u c.al c.ac c.cl c.cc)) (hB : B ≤ w.heap.size) (hR : Hid (Rt c.m)) (hhd : Hid (Vf.headE c.m c.u = 0)) (hfo : Hid (Vf.Forms c.m c.u)) (hz1 : c.u.locals.length ≤ 200) (hz6 : c.u.code.length ≤ 4000) (er num : Int) (f : Nat) (come : Nat → Option Vf.Kn) (row : List Nat) (rv : Value) (wr : World) (k : Vf.Kn) (op a nn : Int) (hn : n < c.u.code.length) (hk : Hid (come n = some k)) (hx : Hid (c.u.code[n]? = some ⟨op, a, nn⟩)) (hC : Hid (CoAt c kk w ⟨come, n :: row⟩ rv wr)) (hm : Hid (Vf.mu c.u.code.length ⟨come, n :: row⟩ < f + 1)) (hm3 : Hid (Vf.mu c.u.code.length ⟨come, n :: row⟩ ≤ 3000000)) (hD : Hid (DD c er num n f (Vf.mu c.u.code.length ⟨come, row⟩) (Vf.andThen (Vf.reck c.m c.u ⟨op, a, nn⟩ k) fun k' => Vf.goAll c.u.code.length k' (Vf.goes ⟨op, a, nn⟩ n) ⟨come, row⟩))) (K : Act → World → Prop) (Q : Exit → Act → World → Prop)
    (hK : ∀ (u10 u11 u12 u13 u14 u15 u16 u17 u18 u19 u20 u21 u22 u23 u24 u25 u26 u27 u55 u56 u57 u58 u59 u60 u61 u62 u63 u64 u65 u66 u67 u68 u69 u70 u71 u72 u73 u74 u75 u76 u77 u78 u79 u80 u81 u82 u83 u84 u85 u86 u87 u88 u89 u90 u91 u92 u93 u94 u95 u96 u97 u98 u99 u100 u101 u102 u103 u104 u105 u106 u107 u108 u109 u110 u111 u112 u113 u114 u115 u116 u117 u118 u119 u120 u121 u122 u123 u124 u125 u126 u127 u128 u129 u130 u131 u132 u133 u134 u135 u136 u137 u138 u139 u140 u141 u142 u143 u144 u145 u146 u147 u148 u149 u150 u151 u152 u153 u154 u155 u156 u157 u158 u159 u160 u161 u162 u163 u164 u165 u166 u167 u168 u169 u170 u171 u172 u173 u174 u175 u176 u177 u178 u179 u180 u181 u182 u183 u184 u185 u186 u187 u188 u189 u190 u191 u192 u193 u194 u195 u196 u197 u198 u199 u200 u201 u202 u203 u204 u205 u206 u207 u208 u209 u210 u211 u212 u213 u214 u215 u216 u217 u218 u219 u220 u221 u222 u223 u224 u225 u226 u227 u228 u229 u230 u231 u232 u233 u234 u235 u236 u237 u238 u239 u240 u241 u242 u243 u244 u245 u246 u247 u248 u249 u250 u251 u252 u253 u254 u255 u256 u257 u258 u259 u260 u261 u262 u263 u264 u265 u266 u267 u268 u269 u270 u271 u272 u273 u274 u275 u276 u277 u278 u279 u280 u281 u282 u283 u284 u285 u286 u287 u288 u289 u290 u291 u292 u293 u294 u295 u296 u297 u298 u299 u300 u301 u302 u303 u304 u305 u306 : Value) (rv : Value) (w' : World), CdG c kk w er num f rv w' → K ⟨#[t0, t1, .pointer (some ⟨w.heap.size, 0, none⟩), .pointer (some ⟨w.heap.size + 1, 0, none⟩), .pointer (some ⟨w.heap.size + 1 + 1, 0, none⟩), .pointer (some ⟨w.heap.size + 1 + 1 + 1, 0, none⟩), .slice (some ⟨w.heap.size + 1 + 1 + 1 + 1, 0, none⟩) c.u.code.length c.u.code.length, t7, t8, rv, u10, u11, u12, u13, u14, u15, u16, u17, u18, u19, u20, u21, u22, u23, u24, u25, u26, u27, t28, t29, t30, t31, t32, t33, t34, t35, t36, t37, t38, t39, t40, t41, t42, t43, t44, t45, t46, t47, t48, t49, t50, t51, t52, t53, t54, u55, u56, u57, u58, u59, u60, u61, u62, u63, u64, u65, u66, u67, u68, u69, u70, u71, u72, u73, u74, u75, u76, u77, u78, u79, u80, u81, u82, u83, u84, u85, u86, u87, u88, u89, u90, u91, u92, u93, u94, u95, u96, u97, u98, u99, u100, u101, u102, u103, u104, u105, u106, u107, u108, u109, u110, u111, u112, u113, u114, u115, u116, u117, u118, u119, u120, u121, u122, u123, u124, u125, u126, u127, u128, u129, u130, u131, u132, u133, u134, u135, u136, u137, u138, u139, u140, u141, u142, u143, u144, u145, u146, u147, u148, u149, u150, u151, u152, u153, u154, u155, u156, u157, u158, u159, u160, u161, u162, u163, u164, u165, u166, u167, u168, u169, u170, u171, u172, u173, u174, u175, u176, u177, u178, u179, u180, u181, u182, u183, u184, u185, u186, u187, u188, u189, u190, u191, u192, u193, u194, u195, u196, u197, u198, u199, u200, u201, u202, u203, u204, u205, u206, u207, u208, u209, u210, u211, u212, u213, u214, u215, u216, u217, u218, u219, u220, u221, u222, u223, u224, u225, u226, u227, u228, u229, u230, u231, u232, u233, u234, u235, u236, u237, u238, u239, u240, u241, u242, u243, u244, u245, u246, u247, u248, u249, u250, u251, u252, u253, u254, u255, u256, u257, u258, u259, u260, u261, u262, u263, u264, u265, u266, u267, u268, u269, u270, u271, u272, u273, u274, u275, u276, u277, u278, u279, u280, u281, u282, u283, u284, u285, u286, u287, u288, u289, u290, u291, u292, u293, u294, u295, u296, u297, u298, u299, u300, u301, u302, u303, u304, u305, u306, t307], []⟩ w')
    (hRt : ∀ (a : Act) (w' : World) (e : Int) (n : Nat), er = e → num = (n : Int) → e ≠ 0 → a.tmps[4]? = some (.pointer (some ⟨w.heap.size + 1 + 1, 0, none⟩)) → a.defers = [] → w'.heap[w.heap.size + 1 + 1]? = some (.cells #[.int .i64 e, .int .i64 (kk : Int), .int .i64 (n : Int)] 28 (0, 0)) → w.grownBy w' none → Q .ret a w')
    (o3 : (op == 3) = false) (o24 : (op == 24) = true) (o25 : (op == 25) = false) (o31 : (op == 31) = false) (o30 : (op == 30) = false) (o32 : (op == 32) = false) (o4 : (op == 4) = false) (o21 : (op == 21) = false) (o22 : (op == 22) = false) (kd : (c.u.kind != 2) = false) :
    Code.wp Try.prog body2 (Exit.then K Q) ⟨#[t0, t1, .pointer (some ⟨w.heap.size, 0, none⟩), .pointer (some ⟨w.heap.size + 1, 0, none⟩), .pointer (some ⟨w.heap.size + 1 + 1, 0, none⟩), .pointer (some ⟨w.heap.size + 1 + 1 + 1, 0, none⟩), .slice (some ⟨w.heap.size + 1 + 1 + 1 + 1, 0, none⟩) c.u.code.length c.u.code.length, t7, t8, rv, t10, t11, t12, t13, t14, t15, t16, t17, t18, t19, t20, t21, t22, t23, t24, t25, t26, t27, t28, t29, t30, t31, t32, t33, t34, t35, t36, t37, t38, t39, t40, t41, t42, t43, t44, t45, t46, t47, t48, t49, t50, t51, t52, t53, t54, t55, t56, t57, t58, t59, t60, t61, t62, t63, t64, t65, t66, t67, t68, t69, t70, t71, t72, t73, t74, t75, t76, t77, t78, t79, t80, t81, t82, t83, t84, t85, t86, t87, t88, t89, t90, t91, t92, t93, t94, t95, t96, t97, t98, t99, t100, t101, t102, t103, t104, t105, t106, t107, t108, t109, t110, t111, t112, t113, t114, t115, t116, t117, t118, t119, t120, t121, t122, t123, t124, t125, t126, t127, t128, t129, t130, t131, t132, t133, t134, t135, t136, t137, t138, t139, t140, t141, t142, t143, t144, t145, t146, t147, t148, t149, t150, t151, t152, t153, t154, t155, t156, t157, t158, t159, t160, t161, t162, t163, t164, t165, t166, t167, t168, t169, t170, t171, t172, t173, t174, t175, t176, t177, t178, t179, t180, t181, t182, t183, t184, t185, t186, t187, t188, t189, t190, t191, t192, t193, t194, t195, t196, t197, t198, t199, t200, t201, t202, t203, t204, t205, t206, t207, t208, t209, t210, t211, t212, t213, t214, t215, t216, t217, t218, t219, t220, t221, t222, t223, t224, t225, t226, t227, t228, t229, t230, t231, t232, t233, t234, t235, t236, t237, t238, t239, t240, t241, t242, t243, t244, t245, t246, t247, t248, t249, t250, t251, t252, t253, t254, t255, t256, t257, t258, t259, t260, t261, t262, t263, t264, t265, t266, t267, t268, t269, t270, t271, t272, t273, t274, t275, t276, t277, t278, t279, t280, t281, t282, t283, t284, t285, t286, t287, t288, t289, t290, t291, t292, t293, t294, t295, t296, t297, t298, t299, t300, t301, t302, t303, t304, t305, t306, t307], []⟩ wr := by
  have hmf : ∀ (fn : Fn) (first cap : Array Value) (w : World), (Instr.makeFunc fn first cap).run Try.prog w = .ok (.func fn first cap) w := fun _ _ _ _ => rfl
  have hu1 := hmd
  have hu2 := hz6
  have hu3 := hm
  clear hu1 hu2 hu3
  have hmu := hR.out.units
  have HFE : Hid (Vf.formE c.m c.u ⟨op, a, nn⟩ = 0) := hfo.out _ (List.mem_of_getElem? hx.out)
  have HOK : Hid (OkS c.m k.st) := (hC.out.inv.come n k hk.out).2
  have HRQ : Hid (Vf.rreck c.m c.u ⟨op, a, nn⟩ k = Vf.lmap (Vf.reckS c.m c.u ⟨op, a, nn⟩ k)) := Vf.rreck_eq hR.out hhd.out HFE.out HOK.out
  have n3 : Hid (¬ op = 3) := by unfold Hid; simpa using o3
  have n25 : Hid (¬ op = 25) := by unfold Hid; simpa using o25
  have n31 : Hid (¬ op = 31) := by unfold Hid; simpa using o31
  have n30 : Hid (¬ op = 30) := by unfold Hid; simpa using o30
  have n32 : Hid (¬ op = 32) := by unfold Hid; simpa using o32
  have n4 : Hid (¬ op = 4) := by unfold Hid; simpa using o4
  have n21 : Hid (¬ op = 21) := by unfold Hid; simpa using o21
  have n22 : Hid (¬ op = 22) := by unfold Hid; simpa using o22
  have y24 : Hid (op = 24) := by unfold Hid; simpa using o24
  have HN3 : Hid (¬ (op = 3 ∧ k.fl.has a.toNat = false)) := fun h => n3.out h.1
  have hkd : c.u.kind = 2 := by simpa using kd
  have HEA : Hid (¬ Vf.early c.u ⟨op, a, nn⟩) := by unfold Hid Vf.early; have := y24.out; show ¬ ((op = 24 ∧ c.u.kind ≠ 2) ∨ (op = 25 ∧ c.u.kind = 2) ∨ (op = 31 ∧ c.u.kind ≠ 3)); omega
  clear hkd
  have HND : Hid (Vf.rneed c.m c.u ⟨op, a, nn⟩ k.st = .ok (Vf.needs c.m c.u ⟨op, a, nn⟩)) := by
    unfold Hid Vf.rneed
    rw [if_neg n30.out, if_neg n32.out]
  have HK := hide hK
  have HRT := hide hRt
  clear hK hRt
  obtain ⟨g, off, cap, rv', hrv, cx, hgl, hgB, hq', hown, hsl1, hsl2⟩ := row_tail hC.out.q
  subst hrv
  obtain ⟨a3, c3, hform⟩ := hq'.form
  subst hform
  obtain ⟨s1, v1, d0, d1, d2, hs1, hbr, hbl, _⟩ := hC.out.se.yes hn (Vf.cm_some hk.out)
  obtain ⟨a1, c1, hv1⟩ := br_form hbr (Vf.bl_len _ _)
  subst hv1
  have HBR := hide hbr
  have HS1 := hide hs1
  obtain ⟨_, _, _, bC, oC, hac, hbC, e0, e1, e2⟩ := (hun.out.low (low0 hC.out.cd.grown hB)).code n ⟨op, a, nn⟩ hx.out
  have HAC := hide hac
  have q5 := (un_cells2 hC.out.cd.ub).2.2.2.2.2
  rw [hac] at q5
  have lW := hC.out.cd.lt
  have lS := hC.out.se.lt
  have lS1 : w.heap.size + 1 + 1 + 1 + 1 < wr.heap.size + 1 := by omega
  have lS2 : w.heap.size + 1 + 1 + 1 + 1 < wr.heap.size + 1 + 1 := by omega
  have lC : bC < wr.heap.size := by omega
  have lC1 : bC < wr.heap.size + 1 := by omega
  have hni : (n : Int) < (c.u.code.length : Int) := by omega
  have hr0 : (0 : Int) < (row.length : Int) + 1 := by omega
  have HQ' := hide hq'
  have HOWN := hide hown
  clear hbr hs1 hac hq' hown
  conv => arg 2; whnf
  go_wp2_with (at_builtin; refine wpList_append_bools rfl _ _ rfl (wr.heap.size + 1 + 1) (w.heap.size + 1 + 1 + 1 + 1) rfl (new2 _ _ _ _) _ (Vf.bl c.u.locals.length k.fl) rfl (br_grown HBR.out (grown0_new (two_new _ _ _) _)) (by rw [Vf.bl_len]; exact hz1) ?_; intro v2 w2 hb2 hgg2; obtain ⟨a2, c2, hv2⟩ := br_form hb2 (Vf.bl_len _ _); subst hv2; have HX := hide (rx_start hC.out HQ'.out HOWN.out hgl hm3.out hgg2 hb2); obtain ⟨m0, m1, _⟩ := am_cells HX.out.cd.mb; obtain ⟨q0, q1, q2, q3, q4, q5'⟩ := un_cells2 HX.out.cd.ub; obtain ⟨i0, i1, i2⟩ := in_cells HX.out.ib; have aa := one_cells HX.out.ab; have lW' := HX.out.cd.lt; have lA := lt_of_block HX.out.ab; have lI := lt_of_block HX.out.ib; obtain ⟨s1', v1', d0', d1', d2', hs1', _⟩ := HX.out.se.yes hn (Vf.cm_some hk.out); have lS3 := HX.out.se.lt; clear hb2 hgg2 cx d0 d1 d2 q5 lW lS lS1 lS2 lC lC1 e0 e1 e2 hsl1 hsl2)
  have HG0 := hide HX.out.cd.grown
  refine (rneeds_any c.m c.ab c.au c.cb c.cu B c.u c.al c.ac c.cl c.cc op a nn _ (hide (hmd.out.low (low0 HG0.out hB))) (hide (hun.out.low (low0 HG0.out hB))) (by omega) hR hhd HFE HEA).mono ?_
  rintro e w3 ⟨⟨sw, sp, hsw, hsp, rfl⟩, hg3⟩
  dsimp only
  have HX3 := hide (HX.out.next hg3)
  have HSW := hide hsw
  have HSP := hide hsp
  clear m0 m1 q0 q1 q2 q3 q4 q5' i0 i1 i2 aa lW' lA lI d0' d1' d2' lS3 hg3 hsw hsp HG0
  obtain ⟨q0, q1, q2, q3, q4, q5'⟩ := un_cells2 HX3.out.cd.ub
  obtain ⟨i0, i1, i2⟩ := in_cells HX3.out.ib
  have aa := one_cells HX3.out.ab
  have lW' := HX3.out.cd.lt
  have lA := lt_of_block HX3.out.ab
  have lI := lt_of_block HX3.out.ib
  go_wp2_with fail
  obtain ⟨R, hRd⟩ : ∃ R, R = Vf.rtk (Vf.needs c.m c.u ⟨op, a, nn⟩).1.reverse (k.st.map Vf.ltr) 0 := ⟨_, rfl⟩
  have HRD := hide hRd
  have hfw := needs_few (x := ⟨op, a, nn⟩) hR.out HFE.out
  have hz3 : s1'.size ≤ 1000 := by rw [← list_size, hs1']; have := HOK.out.2; simp; omega
  have hz4 : sw.size ≤ 1000 := by rw [← list_size, HSW.out]; omega
  have hzp : sp.size ≤ 1 := by rw [← list_size, HSP.out]; exact hfw.2
  have HRG : Hid (Vf.rreck c.m c.u ⟨op, a, nn⟩ k = Vf.andThen R fun r => Vf.rput ⟨op, a, nn⟩ (Vf.needs c.m c.u ⟨op, a, nn⟩).2 r) := by
    unfold Hid
    rw [hRd]
    exact rreck_go HN3.out HEA.out HND.out
  clear hRd hfw
  refine (rtake_any s1' sw (k.st.map Vf.ltr) (Vf.needs c.m c.u ⟨op, a, nn⟩).1.reverse _ (hide hs1') (hide (by rw [HSW.out]; simp)) hz3 hz4 R HRD).mono ?_
  rintro e w4 ⟨hrk, rfl⟩
  cases R with
  | error e' =>
    obtain rfl : e = _ := hrk
    dsimp only
    have HRE : Hid (Vf.rreck c.m c.u ⟨op, a, nn⟩ k = .error e') := HRG.out
    have HE : Hid (DD c er num n f (Vf.mu c.u.code.length ⟨come, row⟩) (.error e')) := rr_bad hD.out HRQ.out HRE.out
    have hnz : e' ≠ 0 := by
      have h1 := HRE.out
      rw [HRQ.out] at h1
      exact reckS_nz _ _ _ _ e' (lmap_err h1)
    have enz : (e' != 0) = true := by simpa using hnz
    go_wp2_with fail
    refine (rbad_any (w.heap.size + 1) wr.heap.size e' (kk : Int) (n : Int) _ (hide (one_cells HX3.out.cd.kb)) (hide (one_cells HX3.out.ab)) (by omega) (lt_of_block HX3.out.ab)).mono ?_
    rintro e w9 ⟨rfl, hg9⟩
    dsimp only
    have HW9 : Hid (w9.heap[w.heap.size + 1 + 1]? = some whZ) := (kept0 hg9 (lt_of_block HX3.out.cd.wz)).trans HX3.out.cd.wz
    have HG9 : Hid (w.grownBy w9 none) := grown0_tr' HX3.out.cd.grown hg9
    clear q0 q1 q2 q3 q4 q5' i0 i1 i2 aa lA lI
    obtain ⟨⟨z0, z1, z2⟩, y0, y1, y2⟩ := wh_cells HW9.out
    have hz9 := lt_of_block HW9.out
    clear hg9
    go_wp2
    exact HRT.out _ _ e' n HE.out.1 HE.out.2 hnz rfl rfl (wh_set HW9.out _ _ _) (grown0_setN (grown0_setN (grown0_setN HG9.out (by omega) _ _) (by omega) _ _) (by omega) _ _)
  | ok l =>
    obtain ⟨s2, hs2, rfl⟩ := hrk
    dsimp only
    have hz5 : s2.size ≤ 1000 := by
      have h1 := HRD.out
      rw [← list_size, hs2]
      have := rtk_len _ _ _ _ h1.symm
      have h2 := HOK.out.2
      rw [List.length_map] at this
      rw [List.length_reverse]
      omega
    have hzz : ¬ 9223372036854775807 < s2.size + sp.size := by omega
    obtain ⟨s3, hs3⟩ : ∃ s3, s2 ++ sp = s3 := ⟨_, rfl⟩
    have HS3 : Hid (s3.data.toList = ((Vf.needs c.m c.u ⟨op, a, nn⟩).2.reverse ++ l).reverse) := by
      unfold Hid
      rw [← hs3, ByteArray.data_append]
      simp [hs2, HSP.out]
    have hsz3 : s3.size = ((Vf.needs c.m c.u ⟨op, a, nn⟩).2.reverse ++ l).length := by rw [← list_size, HS3.out, List.length_reverse]
    have HRP : Hid (Vf.rreck c.m c.u ⟨op, a, nn⟩ k = Vf.rput ⟨op, a, nn⟩ (Vf.needs c.m c.u ⟨op, a, nn⟩).2 l) := HRG.out
    by_cases h300 : 300 < s3.size
    · have d300 : decide ((300 : Int) < (s3.size : Int)) = true := by simp; omega
      have HE : Hid (DD c er num n f (Vf.mu c.u.code.length ⟨come, row⟩) (.error 4)) := rr_bad hD.out HRQ.out (by rw [HRP.out, rput_split, if_pos (by rw [← hsz3]; exact h300)])
      clear h300 hsz3
      go_wp2_with fail
      refine (rbad_any (w.heap.size + 1) wr.heap.size 4 (kk : Int) (n : Int) _ (hide (one_cells HX3.out.cd.kb)) (hide (one_cells HX3.out.ab)) (by omega) (lt_of_block HX3.out.ab)).mono ?_
      rintro e w9 ⟨rfl, hg9⟩
      dsimp only
      have HW9 : Hid (w9.heap[w.heap.size + 1 + 1]? = some whZ) := (kept0 hg9 (lt_of_block HX3.out.cd.wz)).trans HX3.out.cd.wz
      have HG9 : Hid (w.grownBy w9 none) := grown0_tr' HX3.out.cd.grown hg9
      clear q0 q1 q2 q3 q4 q5' i0 i1 i2 aa lA lI
      obtain ⟨⟨z0, z1, z2⟩, y0, y1, y2⟩ := wh_cells HW9.out
      have hz9 := lt_of_block HW9.out
      clear hg9
      go_wp2
      exact HRT.out _ _ 4 n HE.out.1 HE.out.2 (by decide) rfl rfl (wh_set HW9.out _ _ _) (grown0_setN (grown0_setN (grown0_setN HG9.out (by omega) _ _) (by omega) _ _) (by omega) _ _)
    · have d300 : decide ((300 : Int) < (s3.size : Int)) = false := by simp; omega
      have HRP2 : Hid (Vf.rreck c.m c.u ⟨op, a, nn⟩ k = if (op = 24 ∨ op = 25) ∧ (Vf.needs c.m c.u ⟨op, a, nn⟩).2.reverse ++ l ≠ [] then .error 12 else .ok ((Vf.needs c.m c.u ⟨op, a, nn⟩).2.reverse ++ l)) := by
        unfold Hid
        rw [HRP.out, rput_split, if_neg (by rw [← hsz3]; exact h300)]
      clear h300 HRP hsz3
      by_cases hem : (Vf.needs c.m c.u ⟨op, a, nn⟩).2.reverse ++ l = []
      · have hse : s3.toList.isEmpty = true := by
          rw [Lib.toList_data, HS3.out, hem]
          rfl
        have HEM := hide hem
        clear hem
        go_wp2_with fail
        have HGS : Hid (Vf.goes ⟨op, a, nn⟩ n = ([] : List Int)) := by
          unfold Hid Vf.goes
          rw [if_pos (show op = 24 ∨ op = 25 from .inl y24.out)]
        have HRO : Hid (Vf.rreck c.m c.u ⟨op, a, nn⟩ k = .ok ((Vf.needs c.m c.u ⟨op, a, nn⟩).2.reverse ++ l)) := by
          unfold Hid
          rw [HRP2.out, if_neg (fun hh => hh.2 HEM.out)]
        obtain ⟨st', hst', hrk', hD'⟩ := rr_ok hD.out HRQ.out HRO.out
        have HD : Hid (DD c er num n f (Vf.mu c.u.code.length ⟨come, row⟩) (Vf.goAll c.u.code.length ⟨st', Vf.reckF ⟨op, a, nn⟩ k.fl⟩ ([] : List Int) ⟨come, row⟩)) := by
          unfold Hid
          rw [← HGS.out]
          exact hD'
        have HOK' : Hid (OkS c.m st') := reck_ok hR.out hhd.out HFE.out HOK.out hrk'
        have HSB : Hid (s3.data.toList = (st'.map Vf.ltr).reverse) := by
          unfold Hid
          rw [HS3.out, hst']
        have hfl : Vf.reckF ⟨op, a, nn⟩ k.fl = k.fl := by
          unfold Vf.reckF
          rw [if_neg n4.out]
        rw [hfl] at HD
        have HFK : Hid (Vf.FlOk c.u.locals.length (k.fl)) := (hC.out.flg n k hk.out)
        have HL3 : Hid (L3 c kk wr.heap.size w4.heap.size (wr.heap.size + 1 + 1) n (.slice a2 c.u.locals.length c2) ([] : List Int) ⟨st', k.fl⟩ w ⟨come, row⟩ (.slice a3 row.length c3) 0 w4) := HX3.out.l3 (fun h => absurd rfl h) (fun b hb => by have := HX3.out.qa b hb; omega)
        have hmx := hm.out
        have hm4 := hm3.out
        rw [Vf.mu_row] at hmx hm4
        have HMX := hide hmx
        have HM4 := hide hm4
        clear hst' hrk' hD' hfl hmx hm4
        refine wp_loop_rounds (c := body3) 3 (loop3 c kk wr.heap.size w4.heap.size (wr.heap.size + 1 + 1) n (.slice a2 c.u.locals.length c2) (.slice none 0 0) s3 ([] : List Int) ⟨st', k.fl⟩ w (DD c er num n f (Vf.mu c.u.code.length ⟨come, row⟩)) HSB HOK' HFK (hide (fun t ht => by cases ht)) (hide (fun h => absurd rfl h)) (by simp) hz1 hmu _ _ _ _ _ _ _ _ _ _ _ _ _ _ _ _ _ _ _ _ _ _ _ _ _ _ _ _ _ _ _ _ _ _ _ _ _ _ _ _ _ _ _ _ _ _ _ _ _ _ _ _ _ _ _ _ _ _ _ _ _ _ _ _ _ _ _ _ _ _ _ _ _ _ _ _ _ _ _ _ _ _ _ _ _ _ _ _ _ _ _ _ _ _ _ _ _ _ _ _ _ _ _ _ _ _ _ _ _ _ _ _ _ _ _ _ _ _ _ _ _ _ _ _ _ _ _ _ _ _ _ _ _ _ _ _ _ _ _ _ _ _ _ _ _ _ _ _ _ _ _ _ _ _ _ _ _ _ _ _ _ _ _ _ _ _ _ _ _ _ _ _ _ _ _ _ _ _ _ _ _ _ _ _ _ _ _ _ _ _ _ _ _ _ _ _ _ _ _ _ _ _ _ _ _ _ _ _ _ _ _ _ _ _ _ _ _ _ _ _ _ ?_ ?_ 3 _ _ _ _ _ _ _ _ _ _ _ _ _ _ _ _ _ _ _ _ _ _ _ _ _ _ _ _ _ _ _ _ _ _ _ _ _ _ _ _ _ _ _ _ _ _ _ _ _ _ _ _ _ _ _ _ _ _ _ _ _ _ _ _ _ _ _ _ _ _ _ _ _ _ _ _ ⟨come, row⟩ (.slice a3 row.length c3) 0 _ (by simp) HL3.out HD.out)
        · intro x24 x25 x26 x27 x234 x235 x236 x237 x238 x239 x240 x241 x242 x243 x244 x245 x246 x247 x248 x249 x250 x251 x252 x253 x254 x255 x256 x257 x258 x259 x260 x261 x262 x263 x264 x265 x266 x267 x268 x269 x270 x271 x272 x273 x274 x275 x276 x277 x278 x279 x280 x281 x282 x283 x284 x285 x286 x287 x288 x289 x290 x291 x292 x293 x294 x295 x296 x297 x298 x299 x300 x301 x302 x303 x304 x305 x306 s' rv' w' hL hd
          have HLe := hide hL
          have HDe := hide hd
          clear hL hd
          go_wp2
          exact HK.out _ _ _ _ _ _ _ _ _ _ _ _ _ _ _ _ _ _ _ _ _ _ _ _ _ _ _ _ _ _ _ _ _ _ _ _ _ _ _ _ _ _ _ _ _ _ _ _ _ _ _ _ _ _ _ _ _ _ _ _ _ _ _ _ _ _ _ _ _ _ _ _ _ _ _ _ _ _ _ _ _ _ _ _ _ _ _ _ _ _ _ _ _ _ _ _ _ _ _ _ _ _ _ _ _ _ _ _ _ _ _ _ _ _ _ _ _ _ _ _ _ _ _ _ _ _ _ _ _ _ _ _ _ _ _ _ _ _ _ _ _ _ _ _ _ _ _ _ _ _ _ _ _ _ _ _ _ _ _ _ _ _ _ _ _ _ _ _ _ _ _ _ _ _ _ _ _ _ _ _ _ _ _ _ _ _ _ _ _ _ _ _ _ _ _ _ _ _ _ _ _ _ _ _ _ _ _ _ _ _ _ _ _ _ _ _ _ _ _ _ _ _ _ _ _ _ _ _ _ _ _ _ _ _ _ _ _ _ _ _ _ _ _ _ _ _ _ _ _ _ _ _ _ _ _ _ _ _ _ _ _ _ _ _ _ _ _ _ _ _ rv' _ ⟨s', ⟨HLe.out.cd, HLe.out.se.forget, HLe.out.q, HLe.out.inv, HLe.out.flg⟩, by have := HDe.out.2; have := HMX.out; omega, by have := HDe.out.2; have := HM4.out; omega, HDe.out.1⟩
        · intro a' w' e' hd hne h4 hdf hce hgr
          exact HRT.out a' w' e' n hd.1 hd.2 hne h4 hdf hce hgr
      · have hse : s3.toList.isEmpty = false := bytes_some (by rw [← list_size, HS3.out, List.length_reverse]; exact List.length_pos_iff.2 hem)
        have HE : Hid (DD c er num n f (Vf.mu c.u.code.length ⟨come, row⟩) (.error 12)) := rr_bad hD.out HRQ.out (by rw [HRP2.out, if_pos ⟨.inl y24.out, hem⟩])
        clear hem
        go_wp2_with fail
        refine (rbad_any (w.heap.size + 1) wr.heap.size 12 (kk : Int) (n : Int) _ (hide (one_cells HX3.out.cd.kb)) (hide (one_cells HX3.out.ab)) (by omega) (lt_of_block HX3.out.ab)).mono ?_
        rintro e w9 ⟨rfl, hg9⟩
        dsimp only
        have HW9 : Hid (w9.heap[w.heap.size + 1 + 1]? = some whZ) := (kept0 hg9 (lt_of_block HX3.out.cd.wz)).trans HX3.out.cd.wz
        have HG9 : Hid (w.grownBy w9 none) := grown0_tr' HX3.out.cd.grown hg9
        clear q0 q1 q2 q3 q4 q5' i0 i1 i2 aa lA lI
        obtain ⟨⟨z0, z1, z2⟩, y0, y1, y2⟩ := wh_cells HW9.out
        have hz9 := lt_of_block HW9.out
        clear hg9
        go_wp2
        exact HRT.out _ _ 12 n HE.out.1 HE.out.2 (by decide) rfl rfl (wh_set HW9.out _ _ _) (grown0_setN (grown0_setN (grown0_setN HG9.out (by omega) _ _) (by omega) _ _) (by omega) _ _)



set_option maxRecDepth 1000000 in
set_option maxHeartbeats 8000000 in
theorem round2_E24 (t0 t1 t7 t8 t10 t11 t12 t13 t14 t15 t16 t17 t18 t19 t20 t21 t22 t23 t24 t25 t26 t27 t28 t29 t30 t31 t32 t33 t34 t35 t36 t37 t38 t39 t40 t41 t42 t43 t44 t45 t46 t47 t48 t49 t50 t51 t52 t53 t54 t55 t56 t57 t58 t59 t60 t61 t62 t63 t64 t65 t66 t67 t68 t69 t70 t71 t72 t73 t74 t75 t76 t77 t78 t79 t80 t81 t82 t83 t84 t85 t86 t87 t88 t89 t90 t91 t92 t93 t94 t95 t96 t97 t98 t99 t100 t101 t102 t103 t104 t105 t106 t107 t108 t109 t110 t111 t112 t113 t114 t115 t116 t117 t118 t119 t120 t121 t122 t123 t124 t125 t126 t127 t128 t129 t130 t131 t132 t133 t134 t135 t136 t137 t138 t139 t140 t141 t142 t143 t144 t145 t146 t147 t148 t149 t150 t151 t152 t153 t154 t155 t156 t157 t158 t159 t160 t161 t162 t163 t164 t165 t166 t167 t168 t169 t170 t171 t172 t173 t174 t175 t176 t177 t178 t179 t180 t181 t182 t183 t184 t185 t186 t187 t188 t189 t190 t191 t192 t193 t194 t195 t196 t197 t198 t199 t200 t201 t202 t203 t204 t205 t206 t207 t208 t209 t210 t211 t212 t213 t214 t215 t216 t217 t218 t219 t220 t221 t222 t223 t224 t225 t226 t227 t228 t229 t230 t231 t232 t233 t234 t235 t236 t237 t238 t239 t240 t241 t242 t243 t244 t245 t246 t247 t248 t249 t250 t251 t252 t253 t254 t255 t256 t257 t258 t259 t260 t261 t262 t263 t264 t265 t266 t267 t268 t269 t270 t271 t272 t273 t274 t275 t276 t277 t278 t279 t280 t281 t282 t283 t284 t285 t286 t287 t288 t289 t290 t291 t292 t293 t294 t295 t296 t297 t298 t299 t300 t301 t302 t303 t304 t305 t306 t307 : Value) (c : FC) (B kk n : Nat) (w : World) (hmd : Hid (ModIn B w c.m c.ab c.au)) (hun : Hid (UnIn B w c.u c.al c.ac c.cl c.cc)) (hB : B ≤ w.heap.size) (hR : Hid (Rt c.m)) (hhd : Hid (Vf.headE c.m c.u = 0)) (hfo : Hid (Vf.Forms c.m c.u)) (hz1 : c.u.locals.length ≤ 200) (hz6 : c.u.code.length ≤ 4000) (er num : Int) (f : Nat) (come : Nat → Option Vf.Kn) (row : List Nat) (rv : Value) (wr : World) (k : Vf.Kn) (op a nn : Int) (hn : n < c.u.code.length) (hk : Hid (come n = some k)) (hx : Hid (c.u.code[n]? = some ⟨op, a, nn⟩)) (hC : Hid (CoAt c kk w ⟨come, n :: row⟩ rv wr)) (hm : Hid (Vf.mu c.u.code.length ⟨come, n :: row⟩ < f + 1)) (hm3 : Hid (Vf.mu c.u.code.length ⟨come, n :: row⟩ ≤ 3000000)) (hD : Hid (DD c er num n f (Vf.mu c.u.code.length ⟨come, row⟩) (Vf.andThen (Vf.reck c.m c.u ⟨op, a, nn⟩ k) fun k' => Vf.goAll c.u.code.length k' (Vf.goes ⟨op, a, nn⟩ n) ⟨come, row⟩))) (K : Act → World → Prop) (Q : Exit → Act → World → Prop)
    (hK : ∀ (u10 u11 u12 u13 u14 u15 u16 u17 u18 u19 u20 u21 u22 u23 u24 u25 u26 u27 u55 u56 u57 u58 u59 u60 u61 u62 u63 u64 u65 u66 u67 u68 u69 u70 u71 u72 u73 u74 u75 u76 u77 u78 u79 u80 u81 u82 u83 u84 u85 u86 u87 u88 u89 u90 u91 u92 u93 u94 u95 u96 u97 u98 u99 u100 u101 u102 u103 u104 u105 u106 u107 u108 u109 u110 u111 u112 u113 u114 u115 u116 u117 u118 u119 u120 u121 u122 u123 u124 u125 u126 u127 u128 u129 u130 u131 u132 u133 u134 u135 u136 u137 u138 u139 u140 u141 u142 u143 u144 u145 u146 u147 u148 u149 u150 u151 u152 u153 u154 u155 u156 u157 u158 u159 u160 u161 u162 u163 u164 u165 u166 u167 u168 u169 u170 u171 u172 u173 u174 u175 u176 u177 u178 u179 u180 u181 u182 u183 u184 u185 u186 u187 u188 u189 u190 u191 u192 u193 u194 u195 u196 u197 u198 u199 u200 u201 u202 u203 u204 u205 u206 u207 u208 u209 u210 u211 u212 u213 u214 u215 u216 u217 u218 u219 u220 u221 u222 u223 u224 u225 u226 u227 u228 u229 u230 u231 u232 u233 u234 u235 u236 u237 u238 u239 u240 u241 u242 u243 u244 u245 u246 u247 u248 u249 u250 u251 u252 u253 u254 u255 u256 u257 u258 u259 u260 u261 u262 u263 u264 u265 u266 u267 u268 u269 u270 u271 u272 u273 u274 u275 u276 u277 u278 u279 u280 u281 u282 u283 u284 u285 u286 u287 u288 u289 u290 u291 u292 u293 u294 u295 u296 u297 u298 u299 u300 u301 u302 u303 u304 u305 u306 : Value) (rv : Value) (w' : World), CdG c kk w er num f rv w' → K ⟨#[t0, t1, .pointer (some ⟨w.heap.size, 0, none⟩), .pointer (some ⟨w.heap.size + 1, 0, none⟩), .pointer (some ⟨w.heap.size + 1 + 1, 0, none⟩), .pointer (some ⟨w.heap.size + 1 + 1 + 1, 0, none⟩), .slice (some ⟨w.heap.size + 1 + 1 + 1 + 1, 0, none⟩) c.u.code.length c.u.code.length, t7, t8, rv, u10, u11, u12, u13, u14, u15, u16, u17, u18, u19, u20, u21, u22, u23, u24, u25, u26, u27, t28, t29, t30, t31, t32, t33, t34, t35, t36, t37, t38, t39, t40, t41, t42, t43, t44, t45, t46, t47, t48, t49, t50, t51, t52, t53, t54, u55, u56, u57, u58, u59, u60, u61, u62, u63, u64, u65, u66, u67, u68, u69, u70, u71, u72, u73, u74, u75, u76, u77, u78, u79, u80, u81, u82, u83, u84, u85, u86, u87, u88, u89, u90, u91, u92, u93, u94, u95, u96, u97, u98, u99, u100, u101, u102, u103, u104, u105, u106, u107, u108, u109, u110, u111, u112, u113, u114, u115, u116, u117, u118, u119, u120, u121, u122, u123, u124, u125, u126, u127, u128, u129, u130, u131, u132, u133, u134, u135, u136, u137, u138, u139, u140, u141, u142, u143, u144, u145, u146, u147, u148, u149, u150, u151, u152, u153, u154, u155, u156, u157, u158, u159, u160, u161, u162, u163, u164, u165, u166, u167, u168, u169, u170, u171, u172, u173, u174, u175, u176, u177, u178, u179, u180, u181, u182, u183, u184, u185, u186, u187, u188, u189, u190, u191, u192, u193, u194, u195, u196, u197, u198, u199, u200, u201, u202, u203, u204, u205, u206, u207, u208, u209, u210, u211, u212, u213, u214, u215, u216, u217, u218, u219, u220, u221, u222, u223, u224, u225, u226, u227, u228, u229, u230, u231, u232, u233, u234, u235, u236, u237, u238, u239, u240, u241, u242, u243, u244, u245, u246, u247, u248, u249, u250, u251, u252, u253, u254, u255, u256, u257, u258, u259, u260, u261, u262, u263, u264, u265, u266, u267, u268, u269, u270, u271, u272, u273, u274, u275, u276, u277, u278, u279, u280, u281, u282, u283, u284, u285, u286, u287, u288, u289, u290, u291, u292, u293, u294, u295, u296, u297, u298, u299, u300, u301, u302, u303, u304, u305, u306, t307], []⟩ w')
    (hRt : ∀ (a : Act) (w' : World) (e : Int) (n : Nat), er = e → num = (n : Int) → e ≠ 0 → a.tmps[4]? = some (.pointer (some ⟨w.heap.size + 1 + 1, 0, none⟩)) → a.defers = [] → w'.heap[w.heap.size + 1 + 1]? = some (.cells #[.int .i64 e, .int .i64 (kk : Int), .int .i64 (n : Int)] 28 (0, 0)) → w.grownBy w' none → Q .ret a w')
    (o3 : (op == 3) = false) (o24 : (op == 24) = true) (o25 : (op == 25) = false) (o31 : (op == 31) = false) (o30 : (op == 30) = false) (o32 : (op == 32) = false) (o4 : (op == 4) = false) (o21 : (op == 21) = false) (o22 : (op == 22) = false) (kd : (c.u.kind != 2) = true) :
    Code.wp Try.prog body2 (Exit.then K Q) ⟨#[t0, t1, .pointer (some ⟨w.heap.size, 0, none⟩), .pointer (some ⟨w.heap.size + 1, 0, none⟩), .pointer (some ⟨w.heap.size + 1 + 1, 0, none⟩), .pointer (some ⟨w.heap.size + 1 + 1 + 1, 0, none⟩), .slice (some ⟨w.heap.size + 1 + 1 + 1 + 1, 0, none⟩) c.u.code.length c.u.code.length, t7, t8, rv, t10, t11, t12, t13, t14, t15, t16, t17, t18, t19, t20, t21, t22, t23, t24, t25, t26, t27, t28, t29, t30, t31, t32, t33, t34, t35, t36, t37, t38, t39, t40, t41, t42, t43, t44, t45, t46, t47, t48, t49, t50, t51, t52, t53, t54, t55, t56, t57, t58, t59, t60, t61, t62, t63, t64, t65, t66, t67, t68, t69, t70, t71, t72, t73, t74, t75, t76, t77, t78, t79, t80, t81, t82, t83, t84, t85, t86, t87, t88, t89, t90, t91, t92, t93, t94, t95, t96, t97, t98, t99, t100, t101, t102, t103, t104, t105, t106, t107, t108, t109, t110, t111, t112, t113, t114, t115, t116, t117, t118, t119, t120, t121, t122, t123, t124, t125, t126, t127, t128, t129, t130, t131, t132, t133, t134, t135, t136, t137, t138, t139, t140, t141, t142, t143, t144, t145, t146, t147, t148, t149, t150, t151, t152, t153, t154, t155, t156, t157, t158, t159, t160, t161, t162, t163, t164, t165, t166, t167, t168, t169, t170, t171, t172, t173, t174, t175, t176, t177, t178, t179, t180, t181, t182, t183, t184, t185, t186, t187, t188, t189, t190, t191, t192, t193, t194, t195, t196, t197, t198, t199, t200, t201, t202, t203, t204, t205, t206, t207, t208, t209, t210, t211, t212, t213, t214, t215, t216, t217, t218, t219, t220, t221, t222, t223, t224, t225, t226, t227, t228, t229, t230, t231, t232, t233, t234, t235, t236, t237, t238, t239, t240, t241, t242, t243, t244, t245, t246, t247, t248, t249, t250, t251, t252, t253, t254, t255, t256, t257, t258, t259, t260, t261, t262, t263, t264, t265, t266, t267, t268, t269, t270, t271, t272, t273, t274, t275, t276, t277, t278, t279, t280, t281, t282, t283, t284, t285, t286, t287, t288, t289, t290, t291, t292, t293, t294, t295, t296, t297, t298, t299, t300, t301, t302, t303, t304, t305, t306, t307], []⟩ wr := by
  have hmf : ∀ (fn : Fn) (first cap : Array Value) (w : World), (Instr.makeFunc fn first cap).run Try.prog w = .ok (.func fn first cap) w := fun _ _ _ _ => rfl
  have hu1 := hmd
  have hu2 := hz6
  have hu3 := hm
  clear hu1 hu2 hu3
  have hmu := hR.out.units
  have HFE : Hid (Vf.formE c.m c.u ⟨op, a, nn⟩ = 0) := hfo.out _ (List.mem_of_getElem? hx.out)
  have HOK : Hid (OkS c.m k.st) := (hC.out.inv.come n k hk.out).2
  have HRQ : Hid (Vf.rreck c.m c.u ⟨op, a, nn⟩ k = Vf.lmap (Vf.reckS c.m c.u ⟨op, a, nn⟩ k)) := Vf.rreck_eq hR.out hhd.out HFE.out HOK.out
  have n3 : Hid (¬ op = 3) := by unfold Hid; simpa using o3
  have n25 : Hid (¬ op = 25) := by unfold Hid; simpa using o25
  have n31 : Hid (¬ op = 31) := by unfold Hid; simpa using o31
  have n30 : Hid (¬ op = 30) := by unfold Hid; simpa using o30
  have n32 : Hid (¬ op = 32) := by unfold Hid; simpa using o32
  have n4 : Hid (¬ op = 4) := by unfold Hid; simpa using o4
  have n21 : Hid (¬ op = 21) := by unfold Hid; simpa using o21
  have n22 : Hid (¬ op = 22) := by unfold Hid; simpa using o22
  have y24 : Hid (op = 24) := by unfold Hid; simpa using o24
  have HE : Hid (DD c er num n f (Vf.mu c.u.code.length ⟨come, row⟩) (.error 8)) := rr_bad hD.out HRQ.out (by unfold Vf.rreck; rw [if_neg (fun h => n3.out h.1), if_pos (.inl ⟨y24.out, by simpa using kd⟩)])
  have HK := hide hK
  have HRT := hide hRt
  clear hK hRt
  obtain ⟨g, off, cap, rv', hrv, cx, hgl, hgB, hq', hown, hsl1, hsl2⟩ := row_tail hC.out.q
  subst hrv
  obtain ⟨a3, c3, hform⟩ := hq'.form
  subst hform
  obtain ⟨s1, v1, d0, d1, d2, hs1, hbr, hbl, _⟩ := hC.out.se.yes hn (Vf.cm_some hk.out)
  obtain ⟨a1, c1, hv1⟩ := br_form hbr (Vf.bl_len _ _)
  subst hv1
  have HBR := hide hbr
  have HS1 := hide hs1
  obtain ⟨_, _, _, bC, oC, hac, hbC, e0, e1, e2⟩ := (hun.out.low (low0 hC.out.cd.grown hB)).code n ⟨op, a, nn⟩ hx.out
  have HAC := hide hac
  have q5 := (un_cells2 hC.out.cd.ub).2.2.2.2.2
  rw [hac] at q5
  have lW := hC.out.cd.lt
  have lS := hC.out.se.lt
  have lS1 : w.heap.size + 1 + 1 + 1 + 1 < wr.heap.size + 1 := by omega
  have lS2 : w.heap.size + 1 + 1 + 1 + 1 < wr.heap.size + 1 + 1 := by omega
  have lC : bC < wr.heap.size := by omega
  have lC1 : bC < wr.heap.size + 1 := by omega
  have hni : (n : Int) < (c.u.code.length : Int) := by omega
  have hr0 : (0 : Int) < (row.length : Int) + 1 := by omega
  have HQ' := hide hq'
  have HOWN := hide hown
  clear hbr hs1 hac hq' hown
  conv => arg 2; whnf
  go_wp2_with (at_builtin; refine wpList_append_bools rfl _ _ rfl (wr.heap.size + 1 + 1) (w.heap.size + 1 + 1 + 1 + 1) rfl (new2 _ _ _ _) _ (Vf.bl c.u.locals.length k.fl) rfl (br_grown HBR.out (grown0_new (two_new _ _ _) _)) (by rw [Vf.bl_len]; exact hz1) ?_; intro v2 w2 hb2 hgg2; obtain ⟨a2, c2, hv2⟩ := br_form hb2 (Vf.bl_len _ _); subst hv2; have HX := hide (rx_start hC.out HQ'.out HOWN.out hgl hm3.out hgg2 hb2); obtain ⟨m0, m1, _⟩ := am_cells HX.out.cd.mb; obtain ⟨q0, q1, q2, q3, q4, q5'⟩ := un_cells2 HX.out.cd.ub; obtain ⟨i0, i1, i2⟩ := in_cells HX.out.ib; have aa := one_cells HX.out.ab; have lW' := HX.out.cd.lt; have lA := lt_of_block HX.out.ab; have lI := lt_of_block HX.out.ib; obtain ⟨s1', v1', d0', d1', d2', hs1', _⟩ := HX.out.se.yes hn (Vf.cm_some hk.out); have lS3 := HX.out.se.lt; clear hb2 hgg2 cx d0 d1 d2 q5 lW lS lS1 lS2 lC lC1 e0 e1 e2 hsl1 hsl2)
  go_wp2_with fail
  refine (rbad_any (w.heap.size + 1) wr.heap.size 8 (kk : Int) (n : Int) _ (hide (one_cells HX.out.cd.kb)) (hide (one_cells HX.out.ab)) (by omega) (lt_of_block HX.out.ab)).mono ?_
  rintro e w9 ⟨rfl, hg9⟩
  dsimp only
  have HW9 : Hid (w9.heap[w.heap.size + 1 + 1]? = some whZ) := (kept0 hg9 (lt_of_block HX.out.cd.wz)).trans HX.out.cd.wz
  have HG9 : Hid (w.grownBy w9 none) := grown0_tr' HX.out.cd.grown hg9
  clear q0 q1 q2 q3 q4 q5' i0 i1 i2 aa lA lI
  obtain ⟨⟨z0, z1, z2⟩, y0, y1, y2⟩ := wh_cells HW9.out
  have hz9 := lt_of_block HW9.out
  clear hg9
  go_wp2
  exact HRT.out _ _ 8 n HE.out.1 HE.out.2 (by decide) rfl rfl (wh_set HW9.out _ _ _) (grown0_setN (grown0_setN (grown0_setN HG9.out (by omega) _ _) (by omega) _ _) (by omega) _ _)



set_option maxRecDepth 1000000 in
set_option maxHeartbeats 8000000 in
theorem round2_E25 (t0 t1 t7 t8 t10 t11 t12 t13 t14 t15 t16 t17 t18 t19 t20 t21 t22 t23 t24 t25 t26 t27 t28 t29 t30 t31 t32 t33 t34 t35 t36 t37 t38 t39 t40 t41 t42 t43 t44 t45 t46 t47 t48 t49 t50 t51 t52 t53 t54 t55 t56 t57 t58 t59 t60 t61 t62 t63 t64 t65 t66 t67 t68 t69 t70 t71 t72 t73 t74 t75 t76 t77 t78 t79 t80 t81 t82 t83 t84 t85 t86 t87 t88 t89 t90 t91 t92 t93 t94 t95 t96 t97 t98 t99 t100 t101 t102 t103 t104 t105 t106 t107 t108 t109 t110 t111 t112 t113 t114 t115 t116 t117 t118 t119 t120 t121 t122 t123 t124 t125 t126 t127 t128 t129 t130 t131 t132 t133 t134 t135 t136 t137 t138 t139 t140 t141 t142 t143 t144 t145 t146 t147 t148 t149 t150 t151 t152 t153 t154 t155 t156 t157 t158 t159 t160 t161 t162 t163 t164 t165 t166 t167 t168 t169 t170 t171 t172 t173 t174 t175 t176 t177 t178 t179 t180 t181 t182 t183 t184 t185 t186 t187 t188 t189 t190 t191 t192 t193 t194 t195 t196 t197 t198 t199 t200 t201 t202 t203 t204 t205 t206 t207 t208 t209 t210 t211 t212 t213 t214 t215 t216 t217 t218 t219 t220 t221 t222 t223 t224 t225 t226 t227 t228 t229 t230 t231 t232 t233 t234 t235 t236 t237 t238 t239 t240 t241 t242 t243 t244 t245 t246 t247 t248 t249 t250 t251 t252 t253 t254 t255 t256 t257 t258 t259 t260 t261 t262 t263 t264 t265 t266 t267 t268 t269 t270 t271 t272 t273 t274 t275 t276 t277 t278 t279 t280 t281 t282 t283 t284 t285 t286 t287 t288 t289 t290 t291 t292 t293 t294 t295 t296 t297 t298 t299 t300 t301 t302 t303 t304 t305 t306 t307 : Value) (c : FC) (B kk n : Nat) (w : World) (hmd : Hid (ModIn B w c.m c.ab c.au)) (hun : Hid (UnIn B w c.u c.al c.ac c.cl c.cc)) (hB : B ≤ w.heap.size) (hR : Hid (Rt c.m)) (hhd : Hid (Vf.headE c.m c.u = 0)) (hfo : Hid (Vf.Forms c.m c.u)) (hz1 : c.u.locals.length ≤ 200) (hz6 : c.u.code.length ≤ 4000) (er num : Int) (f : Nat) (come : Nat → Option Vf.Kn) (row : List Nat) (rv : Value) (wr : World) (k : Vf.Kn) (op a nn : Int) (hn : n < c.u.code.length) (hk : Hid (come n = some k)) (hx : Hid (c.u.code[n]? = some ⟨op, a, nn⟩)) (hC : Hid (CoAt c kk w ⟨come, n :: row⟩ rv wr)) (hm : Hid (Vf.mu c.u.code.length ⟨come, n :: row⟩ < f + 1)) (hm3 : Hid (Vf.mu c.u.code.length ⟨come, n :: row⟩ ≤ 3000000)) (hD : Hid (DD c er num n f (Vf.mu c.u.code.length ⟨come, row⟩) (Vf.andThen (Vf.reck c.m c.u ⟨op, a, nn⟩ k) fun k' => Vf.goAll c.u.code.length k' (Vf.goes ⟨op, a, nn⟩ n) ⟨come, row⟩))) (K : Act → World → Prop) (Q : Exit → Act → World → Prop)
    (hK : ∀ (u10 u11 u12 u13 u14 u15 u16 u17 u18 u19 u20 u21 u22 u23 u24 u25 u26 u27 u55 u56 u57 u58 u59 u60 u61 u62 u63 u64 u65 u66 u67 u68 u69 u70 u71 u72 u73 u74 u75 u76 u77 u78 u79 u80 u81 u82 u83 u84 u85 u86 u87 u88 u89 u90 u91 u92 u93 u94 u95 u96 u97 u98 u99 u100 u101 u102 u103 u104 u105 u106 u107 u108 u109 u110 u111 u112 u113 u114 u115 u116 u117 u118 u119 u120 u121 u122 u123 u124 u125 u126 u127 u128 u129 u130 u131 u132 u133 u134 u135 u136 u137 u138 u139 u140 u141 u142 u143 u144 u145 u146 u147 u148 u149 u150 u151 u152 u153 u154 u155 u156 u157 u158 u159 u160 u161 u162 u163 u164 u165 u166 u167 u168 u169 u170 u171 u172 u173 u174 u175 u176 u177 u178 u179 u180 u181 u182 u183 u184 u185 u186 u187 u188 u189 u190 u191 u192 u193 u194 u195 u196 u197 u198 u199 u200 u201 u202 u203 u204 u205 u206 u207 u208 u209 u210 u211 u212 u213 u214 u215 u216 u217 u218 u219 u220 u221 u222 u223 u224 u225 u226 u227 u228 u229 u230 u231 u232 u233 u234 u235 u236 u237 u238 u239 u240 u241 u242 u243 u244 u245 u246 u247 u248 u249 u250 u251 u252 u253 u254 u255 u256 u257 u258 u259 u260 u261 u262 u263 u264 u265 u266 u267 u268 u269 u270 u271 u272 u273 u274 u275 u276 u277 u278 u279 u280 u281 u282 u283 u284 u285 u286 u287 u288 u289 u290 u291 u292 u293 u294 u295 u296 u297 u298 u299 u300 u301 u302 u303 u304 u305 u306 : Value) (rv : Value) (w' : World), CdG c kk w er num f rv w' → K ⟨#[t0, t1, .pointer (some ⟨w.heap.size, 0, none⟩), .pointer (some ⟨w.heap.size + 1, 0, none⟩), .pointer (some ⟨w.heap.size + 1 + 1, 0, none⟩), .pointer (some ⟨w.heap.size + 1 + 1 + 1, 0, none⟩), .slice (some ⟨w.heap.size + 1 + 1 + 1 + 1, 0, none⟩) c.u.code.length c.u.code.length, t7, t8, rv, u10, u11, u12, u13, u14, u15, u16, u17, u18, u19, u20, u21, u22, u23, u24, u25, u26, u27, t28, t29, t30, t31, t32, t33, t34, t35, t36, t37, t38, t39, t40, t41, t42, t43, t44, t45, t46, t47, t48, t49, t50, t51, t52, t53, t54, u55, u56, u57, u58, u59, u60, u61, u62, u63, u64, u65, u66, u67, u68, u69, u70, u71, u72, u73, u74, u75, u76, u77, u78, u79, u80, u81, u82, u83, u84, u85, u86, u87, u88, u89, u90, u91, u92, u93, u94, u95, u96, u97, u98, u99, u100, u101, u102, u103, u104, u105, u106, u107, u108, u109, u110, u111, u112, u113, u114, u115, u116, u117, u118, u119, u120, u121, u122, u123, u124, u125, u126, u127, u128, u129, u130, u131, u132, u133, u134, u135, u136, u137, u138, u139, u140, u141, u142, u143, u144, u145, u146, u147, u148, u149, u150, u151, u152, u153, u154, u155, u156, u157, u158, u159, u160, u161, u162, u163, u164, u165, u166, u167, u168, u169, u170, u171, u172, u173, u174, u175, u176, u177, u178, u179, u180, u181, u182, u183, u184, u185, u186, u187, u188, u189, u190, u191, u192, u193, u194, u195, u196, u197, u198, u199, u200, u201, u202, u203, u204, u205, u206, u207, u208, u209, u210, u211, u212, u213, u214, u215, u216, u217, u218, u219, u220, u221, u222, u223, u224, u225, u226, u227, u228, u229, u230, u231, u232, u233, u234, u235, u236, u237, u238, u239, u240, u241, u242, u243, u244, u245, u246, u247, u248, u249, u250, u251, u252, u253, u254, u255, u256, u257, u258, u259, u260, u261, u262, u263, u264, u265, u266, u267, u268, u269, u270, u271, u272, u273, u274, u275, u276, u277, u278, u279, u280, u281, u282, u283, u284, u285, u286, u287, u288, u289, u290, u291, u292, u293, u294, u295, u296, u297, u298, u299, u300, u301, u302, u303, u304, u305, u306, t307], []⟩ w')
    (hRt : ∀ (a : Act) (w' : World) (e : Int) (n : Nat), er = e → num = (n : Int) → e ≠ 0 → a.tmps[4]? = some (.pointer (some ⟨w.heap.size + 1 + 1, 0, none⟩)) → a.defers = [] → w'.heap[w.heap.size + 1 + 1]? = some (.cells #[.int .i64 e, .int .i64 (kk : Int), .int .i64 (n : Int)] 28 (0, 0)) → w.grownBy w' none → Q .ret a w')
    (o3 : (op == 3) = false) (o24 : (op == 24) = false) (o25 : (op == 25) = true) (o31 : (op == 31) = false) (o30 : (op == 30) = false) (o32 : (op == 32) = false) (o4 : (op == 4) = false) (o21 : (op == 21) = false) (o22 : (op == 22) = false) (kd : (c.u.kind == 2) = true) :
    Code.wp Try.prog body2 (Exit.then K Q) ⟨#[t0, t1, .pointer (some ⟨w.heap.size, 0, none⟩), .pointer (some ⟨w.heap.size + 1, 0, none⟩), .pointer (some ⟨w.heap.size + 1 + 1, 0, none⟩), .pointer (some ⟨w.heap.size + 1 + 1 + 1, 0, none⟩), .slice (some ⟨w.heap.size + 1 + 1 + 1 + 1, 0, none⟩) c.u.code.length c.u.code.length, t7, t8, rv, t10, t11, t12, t13, t14, t15, t16, t17, t18, t19, t20, t21, t22, t23, t24, t25, t26, t27, t28, t29, t30, t31, t32, t33, t34, t35, t36, t37, t38, t39, t40, t41, t42, t43, t44, t45, t46, t47, t48, t49, t50, t51, t52, t53, t54, t55, t56, t57, t58, t59, t60, t61, t62, t63, t64, t65, t66, t67, t68, t69, t70, t71, t72, t73, t74, t75, t76, t77, t78, t79, t80, t81, t82, t83, t84, t85, t86, t87, t88, t89, t90, t91, t92, t93, t94, t95, t96, t97, t98, t99, t100, t101, t102, t103, t104, t105, t106, t107, t108, t109, t110, t111, t112, t113, t114, t115, t116, t117, t118, t119, t120, t121, t122, t123, t124, t125, t126, t127, t128, t129, t130, t131, t132, t133, t134, t135, t136, t137, t138, t139, t140, t141, t142, t143, t144, t145, t146, t147, t148, t149, t150, t151, t152, t153, t154, t155, t156, t157, t158, t159, t160, t161, t162, t163, t164, t165, t166, t167, t168, t169, t170, t171, t172, t173, t174, t175, t176, t177, t178, t179, t180, t181, t182, t183, t184, t185, t186, t187, t188, t189, t190, t191, t192, t193, t194, t195, t196, t197, t198, t199, t200, t201, t202, t203, t204, t205, t206, t207, t208, t209, t210, t211, t212, t213, t214, t215, t216, t217, t218, t219, t220, t221, t222, t223, t224, t225, t226, t227, t228, t229, t230, t231, t232, t233, t234, t235, t236, t237, t238, t239, t240, t241, t242, t243, t244, t245, t246, t247, t248, t249, t250, t251, t252, t253, t254, t255, t256, t257, t258, t259, t260, t261, t262, t263, t264, t265, t266, t267, t268, t269, t270, t271, t272, t273, t274, t275, t276, t277, t278, t279, t280, t281, t282, t283, t284, t285, t286, t287, t288, t289, t290, t291, t292, t293, t294, t295, t296, t297, t298, t299, t300, t301, t302, t303, t304, t305, t306, t307], []⟩ wr := by
  have hmf : ∀ (fn : Fn) (first cap : Array Value) (w : World), (Instr.makeFunc fn first cap).run Try.prog w = .ok (.func fn first cap) w := fun _ _ _ _ => rfl
  have hu1 := hmd
  have hu2 := hz6
  have hu3 := hm
  clear hu1 hu2 hu3
  have hmu := hR.out.units
  have HFE : Hid (Vf.formE c.m c.u ⟨op, a, nn⟩ = 0) := hfo.out _ (List.mem_of_getElem? hx.out)
  have HOK : Hid (OkS c.m k.st) := (hC.out.inv.come n k hk.out).2
  have HRQ : Hid (Vf.rreck c.m c.u ⟨op, a, nn⟩ k = Vf.lmap (Vf.reckS c.m c.u ⟨op, a, nn⟩ k)) := Vf.rreck_eq hR.out hhd.out HFE.out HOK.out
  have n3 : Hid (¬ op = 3) := by unfold Hid; simpa using o3
  have n24 : Hid (¬ op = 24) := by unfold Hid; simpa using o24
  have n31 : Hid (¬ op = 31) := by unfold Hid; simpa using o31
  have n30 : Hid (¬ op = 30) := by unfold Hid; simpa using o30
  have n32 : Hid (¬ op = 32) := by unfold Hid; simpa using o32
  have n4 : Hid (¬ op = 4) := by unfold Hid; simpa using o4
  have n21 : Hid (¬ op = 21) := by unfold Hid; simpa using o21
  have n22 : Hid (¬ op = 22) := by unfold Hid; simpa using o22
  have y25 : Hid (op = 25) := by unfold Hid; simpa using o25
  have HE : Hid (DD c er num n f (Vf.mu c.u.code.length ⟨come, row⟩) (.error 8)) := rr_bad hD.out HRQ.out (by unfold Vf.rreck; rw [if_neg (fun h => n3.out h.1), if_pos (.inr (.inl ⟨y25.out, by simpa using kd⟩))])
  have HK := hide hK
  have HRT := hide hRt
  clear hK hRt
  obtain ⟨g, off, cap, rv', hrv, cx, hgl, hgB, hq', hown, hsl1, hsl2⟩ := row_tail hC.out.q
  subst hrv
  obtain ⟨a3, c3, hform⟩ := hq'.form
  subst hform
  obtain ⟨s1, v1, d0, d1, d2, hs1, hbr, hbl, _⟩ := hC.out.se.yes hn (Vf.cm_some hk.out)
  obtain ⟨a1, c1, hv1⟩ := br_form hbr (Vf.bl_len _ _)
  subst hv1
  have HBR := hide hbr
  have HS1 := hide hs1
  obtain ⟨_, _, _, bC, oC, hac, hbC, e0, e1, e2⟩ := (hun.out.low (low0 hC.out.cd.grown hB)).code n ⟨op, a, nn⟩ hx.out
  have HAC := hide hac
  have q5 := (un_cells2 hC.out.cd.ub).2.2.2.2.2
  rw [hac] at q5
  have lW := hC.out.cd.lt
  have lS := hC.out.se.lt
  have lS1 : w.heap.size + 1 + 1 + 1 + 1 < wr.heap.size + 1 := by omega
  have lS2 : w.heap.size + 1 + 1 + 1 + 1 < wr.heap.size + 1 + 1 := by omega
  have lC : bC < wr.heap.size := by omega
  have lC1 : bC < wr.heap.size + 1 := by omega
  have hni : (n : Int) < (c.u.code.length : Int) := by omega
  have hr0 : (0 : Int) < (row.length : Int) + 1 := by omega
  have HQ' := hide hq'
  have HOWN := hide hown
  clear hbr hs1 hac hq' hown
  conv => arg 2; whnf
  go_wp2_with (at_builtin; refine wpList_append_bools rfl _ _ rfl (wr.heap.size + 1 + 1) (w.heap.size + 1 + 1 + 1 + 1) rfl (new2 _ _ _ _) _ (Vf.bl c.u.locals.length k.fl) rfl (br_grown HBR.out (grown0_new (two_new _ _ _) _)) (by rw [Vf.bl_len]; exact hz1) ?_; intro v2 w2 hb2 hgg2; obtain ⟨a2, c2, hv2⟩ := br_form hb2 (Vf.bl_len _ _); subst hv2; have HX := hide (rx_start hC.out HQ'.out HOWN.out hgl hm3.out hgg2 hb2); obtain ⟨m0, m1, _⟩ := am_cells HX.out.cd.mb; obtain ⟨q0, q1, q2, q3, q4, q5'⟩ := un_cells2 HX.out.cd.ub; obtain ⟨i0, i1, i2⟩ := in_cells HX.out.ib; have aa := one_cells HX.out.ab; have lW' := HX.out.cd.lt; have lA := lt_of_block HX.out.ab; have lI := lt_of_block HX.out.ib; obtain ⟨s1', v1', d0', d1', d2', hs1', _⟩ := HX.out.se.yes hn (Vf.cm_some hk.out); have lS3 := HX.out.se.lt; clear hb2 hgg2 cx d0 d1 d2 q5 lW lS lS1 lS2 lC lC1 e0 e1 e2 hsl1 hsl2)
  go_wp2_with fail
  refine (rbad_any (w.heap.size + 1) wr.heap.size 8 (kk : Int) (n : Int) _ (hide (one_cells HX.out.cd.kb)) (hide (one_cells HX.out.ab)) (by omega) (lt_of_block HX.out.ab)).mono ?_
  rintro e w9 ⟨rfl, hg9⟩
  dsimp only
  have HW9 : Hid (w9.heap[w.heap.size + 1 + 1]? = some whZ) := (kept0 hg9 (lt_of_block HX.out.cd.wz)).trans HX.out.cd.wz
  have HG9 : Hid (w.grownBy w9 none) := grown0_tr' HX.out.cd.grown hg9
  clear q0 q1 q2 q3 q4 q5' i0 i1 i2 aa lA lI
  obtain ⟨⟨z0, z1, z2⟩, y0, y1, y2⟩ := wh_cells HW9.out
  have hz9 := lt_of_block HW9.out
  clear hg9
  go_wp2
  exact HRT.out _ _ 8 n HE.out.1 HE.out.2 (by decide) rfl rfl (wh_set HW9.out _ _ _) (grown0_setN (grown0_setN (grown0_setN HG9.out (by omega) _ _) (by omega) _ _) (by omega) _ _)
end Go.Proofs.Ytbkimpimoclobaa

