/- The document's answer, chapter 7, walked: Code's loop over what comes next. (Laid by tools/mkcode3.py.) -/
import Derived.Test.YtbkimpimoclobaaM34
namespace Go.Proofs.Ytbkimpimoclobaa
open Go.RowKit

theorem goAll_cons {len : Nat} {k : Vf.Kn} {gs : List Int} {j : Nat} {t : Int} {s : Vf.S} (h : gs[j]? = some t) : Vf.goAll len k (gs.drop j) s = Vf.andThen (Vf.goOn len k t s) (Vf.goAll len k (gs.drop (j + 1))) := by
  obtain ⟨hj, rfl⟩ := List.getElem?_eq_some_iff.1 h
  rw [List.drop_eq_getElem_cons hj]
  rfl
theorem ints_cell {w : World} {NB j : Nat} {gs : List Int} {t : Int} (h : w.heap[NB]? = some (.cells (List.toArray (ints64 gs)) 3 (0, 0))) (hj : gs[j]? = some t) : w.cell? ⟨NB, j, none⟩ = some (.int .i64 t) := by
  simp [World.cell?, h, hj]
theorem list_inj {a b : List Int} (ha : ∀ t ∈ a, Vf.Lt t) (hb : ∀ t ∈ b, Vf.Lt t) (h : (a.map Vf.ltr).reverse = (b.map Vf.ltr).reverse) : a = b := by
  have h := List.reverse_inj.1 h
  induction a generalizing b with
  | nil => cases b with
    | nil => rfl
    | cons => cases h
  | cons x a ih => cases b with
    | nil => cases h
    | cons y b =>
      simp only [List.map_cons, List.cons.injEq] at h
      rw [Vf.ltr_inj (ha x (by simp)) (hb y (by simp)) h.1, ih (fun t ht => ha t (List.mem_cons_of_mem _ ht)) (fun t ht => hb t (List.mem_cons_of_mem _ ht)) (by rw [h.2]) h.2]

theorem one_news2 {W : World} {u : Value} {t : TypeId} {q : Nat} (hq : q = W.heap.size) : ∀ j u', [u][j]? = some u' → (W.alloc (.cells #[u] t)).cell? ((⟨q, 0, none⟩ : Addr).add j) = some u' := by
  subst hq
  exact one_news W u t
theorem br_form {w : World} {C n : Nat} {v : Value} {l : List Bool} (h : BR w C v l) (hl : l.length = n) : ∃ a c, v = .slice a n c := by
  subst hl
  rcases h.2 with ⟨rfl, h0⟩ | ⟨g, cap, cur, rfl, _⟩
  · exact ⟨none, 0, by rw [h0]⟩
  · exact ⟨_, _, rfl⟩
theorem bytes_eq {a b : ByteArray} (h : a.data.toList = b.data.toList) : a = b := by
  apply ByteArray.ext
  exact Array.toList_inj.1 h


set_option maxRecDepth 1000000 in
set_option maxHeartbeats 8000000 in
theorem round3 (t0 t1 t2 t7 t8 t11 t15 t16 t17 t18 t19 t20 t21 t22 t23 t24 t25 t26 t27 t28 t29 t30 t31 t32 t33 t34 t35 t36 t37 t38 t39 t40 t41 t42 t43 t44 t45 t46 t47 t48 t49 t50 t51 t52 t53 t54 t55 t56 t57 t58 t59 t60 t61 t62 t63 t64 t65 t66 t67 t68 t69 t70 t71 t72 t73 t74 t75 t76 t77 t78 t79 t80 t81 t82 t83 t84 t85 t86 t87 t88 t89 t90 t91 t92 t93 t94 t95 t96 t97 t98 t99 t100 t101 t102 t103 t104 t105 t106 t107 t108 t109 t110 t111 t112 t113 t114 t115 t116 t117 t118 t119 t120 t121 t122 t123 t124 t125 t126 t127 t128 t129 t130 t131 t132 t133 t134 t135 t136 t137 t138 t139 t140 t141 t142 t143 t144 t145 t146 t147 t148 t149 t150 t151 t152 t153 t154 t155 t156 t157 t158 t159 t160 t161 t162 t163 t164 t165 t166 t167 t168 t169 t170 t171 t172 t173 t174 t175 t176 t177 t178 t179 t180 t181 t182 t183 t184 t185 t186 t187 t188 t189 t190 t191 t192 t193 t194 t195 t196 t197 t198 t199 t200 t201 t202 t203 t204 t205 t206 t207 t208 t209 t210 t211 t212 t213 t214 t215 t216 t217 t218 t219 t220 t221 t222 t223 t224 t225 t226 t227 t228 t229 t230 t231 t235 t236 t237 t238 t239 t240 t241 t242 t243 t244 t245 t246 t247 t248 t249 t250 t251 t252 t253 t254 t255 t256 t257 t258 t259 t260 t261 t262 t263 t264 t265 t266 t267 t268 t269 t270 t271 t272 t273 t274 t275 t276 t277 t278 t279 t280 t281 t282 t283 t284 t285 t286 t287 t288 t289 t290 t291 t292 t293 t294 t295 t296 t297 t298 t299 t300 t301 t302 t303 t304 t305 t306 t307 : Value) (c : FC) (kk AT NB C nn : Nat) (nv nx : Value) (sb : ByteArray) (gs : List Int) (k : Vf.Kn) (w : World) (D : Except Int Vf.S → Prop) (hsb : Hid (sb.data.toList = (k.st.map Vf.ltr).reverse)) (hks : Hid (OkS c.m k.st)) (hkf : Hid (Vf.FlOk c.u.locals.length k.fl)) (hgs : Hid (∀ t ∈ gs, 0 ≤ t ∧ t ≤ c.u.code.length)) (hnx : Hid (gs ≠ [] → nx = .slice (some ⟨NB, 0, none⟩) gs.length gs.length)) (hg2 : gs.length ≤ 2) (hz1 : c.u.locals.length ≤ 200) (hmu : c.m.units.length ≤ 30)
    (s : Vf.S) (rv : Value) (j : Nat) (wr : World) (hL : Hid (L3 c kk AT NB C nn nv gs k w s rv j wr)) (hD : Hid (D (Vf.goAll c.u.code.length k (gs.drop j) s))) (K : Act → World → Prop) (Q : Exit → Act → World → Prop)
    (hK : ∀ (u24 u25 u26 u27 u235 u236 u237 u238 u239 u240 u241 u242 u243 u244 u245 u246 u247 u248 u249 u250 u251 u252 u253 u254 u255 u256 u257 u258 u259 u260 u261 u262 u263 u264 u265 u266 u267 u268 u269 u270 u271 u272 u273 u274 u275 u276 u277 u278 u279 u280 u281 u282 u283 u284 u285 u286 u287 u288 u289 u290 u291 u292 u293 u294 u295 u296 u297 u298 u299 u300 u301 u302 u303 u304 u305 u306 : Value) (s : Vf.S) (rv : Value) (w' : World), L3 c kk AT NB C nn nv gs k w s rv (j + 1) w' → D (Vf.goAll c.u.code.length k (gs.drop (j + 1)) s) → j < gs.length → K ⟨#[t0, t1, t2, .pointer (some ⟨w.heap.size + 1, 0, none⟩), .pointer (some ⟨w.heap.size + 1 + 1, 0, none⟩), .pointer (some ⟨w.heap.size + 1 + 1 + 1, 0, none⟩), .slice (some ⟨w.heap.size + 1 + 1 + 1 + 1, 0, none⟩) c.u.code.length c.u.code.length, t7, t8, rv, .pointer (some ⟨AT, 0, none⟩), t11, nv, .string sb, .func (.func 32) #[] #[.pointer (some ⟨w.heap.size + 1, 0, none⟩), .pointer (some ⟨AT, 0, none⟩)], t15, t16, t17, t18, t19, t20, t21, t22, t23, u24, u25, u26, u27, t28, t29, t30, t31, t32, t33, t34, t35, t36, t37, t38, t39, t40, t41, t42, t43, t44, t45, t46, t47, t48, t49, t50, t51, t52, t53, t54, t55, t56, t57, t58, t59, t60, t61, t62, t63, t64, t65, t66, t67, t68, t69, t70, t71, t72, t73, t74, t75, t76, t77, t78, t79, t80, t81, t82, t83, t84, t85, t86, t87, t88, t89, t90, t91, t92, t93, t94, t95, t96, t97, t98, t99, t100, t101, t102, t103, t104, t105, t106, t107, t108, t109, t110, t111, t112, t113, t114, t115, t116, t117, t118, t119, t120, t121, t122, t123, t124, t125, t126, t127, t128, t129, t130, t131, t132, t133, t134, t135, t136, t137, t138, t139, t140, t141, t142, t143, t144, t145, t146, t147, t148, t149, t150, t151, t152, t153, t154, t155, t156, t157, t158, t159, t160, t161, t162, t163, t164, t165, t166, t167, t168, t169, t170, t171, t172, t173, t174, t175, t176, t177, t178, t179, t180, t181, t182, t183, t184, t185, t186, t187, t188, t189, t190, t191, t192, t193, t194, t195, t196, t197, t198, t199, t200, t201, t202, t203, t204, t205, t206, t207, t208, t209, t210, t211, t212, t213, t214, t215, t216, t217, t218, t219, t220, t221, t222, t223, t224, t225, t226, t227, t228, t229, t230, t231, nx, .int .i64 (gs.length : Int), .int .i64 ((j + 1 : Nat) : Int), u235, u236, u237, u238, u239, u240, u241, u242, u243, u244, u245, u246, u247, u248, u249, u250, u251, u252, u253, u254, u255, u256, u257, u258, u259, u260, u261, u262, u263, u264, u265, u266, u267, u268, u269, u270, u271, u272, u273, u274, u275, u276, u277, u278, u279, u280, u281, u282, u283, u284, u285, u286, u287, u288, u289, u290, u291, u292, u293, u294, u295, u296, u297, u298, u299, u300, u301, u302, u303, u304, u305, u306, t307], []⟩ w')
    (hE : ∀ (u24 u25 u26 u27 u234 u235 u236 u237 u238 u239 u240 u241 u242 u243 u244 u245 u246 u247 u248 u249 u250 u251 u252 u253 u254 u255 u256 u257 u258 u259 u260 u261 u262 u263 u264 u265 u266 u267 u268 u269 u270 u271 u272 u273 u274 u275 u276 u277 u278 u279 u280 u281 u282 u283 u284 u285 u286 u287 u288 u289 u290 u291 u292 u293 u294 u295 u296 u297 u298 u299 u300 u301 u302 u303 u304 u305 u306 : Value) (s : Vf.S) (rv : Value) (w' : World), L3 c kk AT NB C nn nv gs k w s rv gs.length w' → D (.ok s) → Q (.exit 5) ⟨#[t0, t1, t2, .pointer (some ⟨w.heap.size + 1, 0, none⟩), .pointer (some ⟨w.heap.size + 1 + 1, 0, none⟩), .pointer (some ⟨w.heap.size + 1 + 1 + 1, 0, none⟩), .slice (some ⟨w.heap.size + 1 + 1 + 1 + 1, 0, none⟩) c.u.code.length c.u.code.length, t7, t8, rv, .pointer (some ⟨AT, 0, none⟩), t11, nv, .string sb, .func (.func 32) #[] #[.pointer (some ⟨w.heap.size + 1, 0, none⟩), .pointer (some ⟨AT, 0, none⟩)], t15, t16, t17, t18, t19, t20, t21, t22, t23, u24, u25, u26, u27, t28, t29, t30, t31, t32, t33, t34, t35, t36, t37, t38, t39, t40, t41, t42, t43, t44, t45, t46, t47, t48, t49, t50, t51, t52, t53, t54, t55, t56, t57, t58, t59, t60, t61, t62, t63, t64, t65, t66, t67, t68, t69, t70, t71, t72, t73, t74, t75, t76, t77, t78, t79, t80, t81, t82, t83, t84, t85, t86, t87, t88, t89, t90, t91, t92, t93, t94, t95, t96, t97, t98, t99, t100, t101, t102, t103, t104, t105, t106, t107, t108, t109, t110, t111, t112, t113, t114, t115, t116, t117, t118, t119, t120, t121, t122, t123, t124, t125, t126, t127, t128, t129, t130, t131, t132, t133, t134, t135, t136, t137, t138, t139, t140, t141, t142, t143, t144, t145, t146, t147, t148, t149, t150, t151, t152, t153, t154, t155, t156, t157, t158, t159, t160, t161, t162, t163, t164, t165, t166, t167, t168, t169, t170, t171, t172, t173, t174, t175, t176, t177, t178, t179, t180, t181, t182, t183, t184, t185, t186, t187, t188, t189, t190, t191, t192, t193, t194, t195, t196, t197, t198, t199, t200, t201, t202, t203, t204, t205, t206, t207, t208, t209, t210, t211, t212, t213, t214, t215, t216, t217, t218, t219, t220, t221, t222, t223, t224, t225, t226, t227, t228, t229, t230, t231, nx, .int .i64 (gs.length : Int), u234, u235, u236, u237, u238, u239, u240, u241, u242, u243, u244, u245, u246, u247, u248, u249, u250, u251, u252, u253, u254, u255, u256, u257, u258, u259, u260, u261, u262, u263, u264, u265, u266, u267, u268, u269, u270, u271, u272, u273, u274, u275, u276, u277, u278, u279, u280, u281, u282, u283, u284, u285, u286, u287, u288, u289, u290, u291, u292, u293, u294, u295, u296, u297, u298, u299, u300, u301, u302, u303, u304, u305, u306, t307], []⟩ w')
    (hRt : ∀ (a : Act) (w' : World) (e : Int), D (.error e) → e ≠ 0 → a.tmps[4]? = some (.pointer (some ⟨w.heap.size + 1 + 1, 0, none⟩)) → a.defers = [] → w'.heap[w.heap.size + 1 + 1]? = some (.cells #[.int .i64 e, .int .i64 (kk : Int), .int .i64 (nn : Int)] 28 (0, 0)) → w.grownBy w' none → Q .ret a w') :
    Code.wp Try.prog body3 (Exit.then K Q) ⟨#[t0, t1, t2, .pointer (some ⟨w.heap.size + 1, 0, none⟩), .pointer (some ⟨w.heap.size + 1 + 1, 0, none⟩), .pointer (some ⟨w.heap.size + 1 + 1 + 1, 0, none⟩), .slice (some ⟨w.heap.size + 1 + 1 + 1 + 1, 0, none⟩) c.u.code.length c.u.code.length, t7, t8, rv, .pointer (some ⟨AT, 0, none⟩), t11, nv, .string sb, .func (.func 32) #[] #[.pointer (some ⟨w.heap.size + 1, 0, none⟩), .pointer (some ⟨AT, 0, none⟩)], t15, t16, t17, t18, t19, t20, t21, t22, t23, t24, t25, t26, t27, t28, t29, t30, t31, t32, t33, t34, t35, t36, t37, t38, t39, t40, t41, t42, t43, t44, t45, t46, t47, t48, t49, t50, t51, t52, t53, t54, t55, t56, t57, t58, t59, t60, t61, t62, t63, t64, t65, t66, t67, t68, t69, t70, t71, t72, t73, t74, t75, t76, t77, t78, t79, t80, t81, t82, t83, t84, t85, t86, t87, t88, t89, t90, t91, t92, t93, t94, t95, t96, t97, t98, t99, t100, t101, t102, t103, t104, t105, t106, t107, t108, t109, t110, t111, t112, t113, t114, t115, t116, t117, t118, t119, t120, t121, t122, t123, t124, t125, t126, t127, t128, t129, t130, t131, t132, t133, t134, t135, t136, t137, t138, t139, t140, t141, t142, t143, t144, t145, t146, t147, t148, t149, t150, t151, t152, t153, t154, t155, t156, t157, t158, t159, t160, t161, t162, t163, t164, t165, t166, t167, t168, t169, t170, t171, t172, t173, t174, t175, t176, t177, t178, t179, t180, t181, t182, t183, t184, t185, t186, t187, t188, t189, t190, t191, t192, t193, t194, t195, t196, t197, t198, t199, t200, t201, t202, t203, t204, t205, t206, t207, t208, t209, t210, t211, t212, t213, t214, t215, t216, t217, t218, t219, t220, t221, t222, t223, t224, t225, t226, t227, t228, t229, t230, t231, nx, .int .i64 (gs.length : Int), .int .i64 (j : Int), t235, t236, t237, t238, t239, t240, t241, t242, t243, t244, t245, t246, t247, t248, t249, t250, t251, t252, t253, t254, t255, t256, t257, t258, t259, t260, t261, t262, t263, t264, t265, t266, t267, t268, t269, t270, t271, t272, t273, t274, t275, t276, t277, t278, t279, t280, t281, t282, t283, t284, t285, t286, t287, t288, t289, t290, t291, t292, t293, t294, t295, t296, t297, t298, t299, t300, t301, t302, t303, t304, t305, t306, t307], []⟩ wr := by
  have HK := hide hK
  have HX := hide hE
  have HRT := hide hRt
  have HL := hL
  clear hK hE hRt hL
  have hle := HL.out.le
  have hll := HL.out.cd.lt
  have q5 := (un_cells2 HL.out.cd.ub).2.2.2.2.2
  conv => arg 2; whnf
  by_cases hj : j < gs.length
  · obtain ⟨t, ht⟩ : ∃ t, gs[j]? = some t := ⟨_, List.getElem?_eq_getElem hj⟩
    have hne : gs ≠ [] := fun e => by rw [e] at hj; cases hj
    have hnxe := hnx.out hne
    have cn := ints_cell (HL.out.nb hne) ht
    have hnl := lt_of_block (HL.out.nb hne)
    obtain ⟨ht0, htl⟩ := hgs.out t (List.mem_of_getElem? ht)
    obtain ⟨tn, htn⟩ := nn_of ht0
    have hji : (j : Int) < (gs.length : Int) := by omega
    have HDA : Hid (D (Vf.andThen (Vf.goOn c.u.code.length k t s) (Vf.goAll c.u.code.length k (gs.drop (j + 1))))) := by
      have := hD.out
      rw [goAll_cons ht] at this
      exact this
    subst htn hnxe
    clear ht hD hne ht0
    by_cases htl2 : tn = c.u.code.length
    · have e3 : ((tn : Int) == (c.u.code.length : Int)) = true := by simp [htl2]
      have HE : Hid (D (.error 3)) := by
        have h1 := HDA.out
        unfold Vf.goOn at h1
        rw [if_neg (by omega)] at h1
        exact h1
      clear htl2 HDA
      go_wp2_with fail
      refine (rbad_any (w.heap.size + 1) AT 3 (kk : Int) (nn : Int) _ (hide (one_cells HL.out.cd.kb)) (hide (one_cells HL.out.ab)) (by omega) (lt_of_block HL.out.ab)).mono ?_
      rintro e w9 ⟨rfl, hg9⟩
      have HW9 : Hid (w9.heap[w.heap.size + 1 + 1]? = some whZ) := (kept0 hg9 (lt_of_block HL.out.cd.wz)).trans HL.out.cd.wz
      have HG9 : Hid (w.grownBy w9 none) := grown0_tr' HL.out.cd.grown hg9
      obtain ⟨⟨z0, z1, z2⟩, y0, y1, y2⟩ := wh_cells HW9.out
      have hz9 := lt_of_block HW9.out
      clear hg9
      go_wp2
      exact HRT.out _ _ 3 HE.out (by decide) rfl rfl (wh_set HW9.out _ _ _) (grown0_setN (grown0_setN (grown0_setN HG9.out (by omega) _ _) (by omega) _ _) (by omega) _ _)
    have e3 : ((tn : Int) == (c.u.code.length : Int)) = false := by
      rw [beq_eq_false_iff_ne]
      omega
    have htl3 : tn < c.u.code.length := by omega
    have hti : (tn : Int) < (c.u.code.length : Int) := by omega
    have hsl := HL.out.se.lt
    cases hc : s.come tn with
    | none =>
      obtain ⟨d0, ⟨x1, d1⟩, ⟨x2, d2⟩⟩ := HL.out.se.no htl3 (Vf.cm_none hc)
      have HE : Hid (D (Vf.goAll c.u.code.length k (gs.drop (j + 1)) (s.note tn k))) := by
        have h1 := HDA.out
        unfold Vf.goOn at h1
        rw [if_pos (by omega)] at h1
        simp only [Int.toNat_natCast, hc] at h1
        exact h1
      clear HDA
      go_wp2_with (first | (have hx1 := HF.out; at_builtin; refine wpList_append_q2 rfl _ _ rfl (w.heap.size + 1 + 1 + 1 + 1) rv s.row tn rfl (HQ3.out.alloc _) _ rfl (one_news2 (by simp [World.setCell])) (by have := HL.out.few; omega) (by have := HF.out.1.lt; rw [World.size_alloc]; omega) ?_; intro v4 w4 hq4 hg4 hj4; have HR4 : Hid (L3 c kk AT NB C nn nv gs k w (s.note tn k) v4 (j + 1) w4) := HL.out.row HF.out.1 HF.out.2.1 HF.out.2.2.1 HF.out.2.2.2 hq4 hg4 hj4 (note_inv HL.out.inv htl3 hks.out) (HL.out.flg.note hkf.out) hj; clear hq4 hg4 hj4 hx1) | (at_builtin; refine wpList_append_bools rfl _ _ rfl wr.heap.size C rfl (heap_alloc_new _ _) nv (Vf.bl c.u.locals.length k.fl) rfl (br_grown HL.out.now (grown0_new (World.grownBy.refl _ _) _)) (by rw [Vf.bl_len]; exact hz1) ?_; intro v2 w2 hb2 hgg2; obtain ⟨a2, cp2, rfl⟩ := br_form hb2 (Vf.bl_len _ _); have HG2 : Hid (wr.grownBy w2 none) := (grown0_new (World.grownBy.refl wr _) _).andThen hgg2 (fun j e => .inl (by cases e; exact Nat.le_refl _)); have HF := hide (HL.out.first htl3 hsb.out HG2.out hb2); have HQ3 := hide (HL.out.q.keep (fun b hb => HF.out.2.2.2 b _ (qr_int HL.out.q hb).choose_spec)); obtain ⟨b0, ⟨y1, b1⟩, ⟨y2, b2⟩⟩ := (HL.out.se.grown HG2.out).no htl3 (Vf.cm_none hc); have f0 := (HL.out.se.grown HG2.out).frozen (tn * 3); have f1 := (HL.out.se.grown HG2.out).frozen (tn * 3 + 1); have f2 := (HL.out.se.grown HG2.out).frozen (tn * 3 + 2); have l2 := (HL.out.se.grown HG2.out).lt; clear hb2 hgg2))
      exact HK.out _ _ _ _ _ _ _ _ _ _ _ _ _ _ _ _ _ _ _ _ _ _ _ _ _ _ _ _ _ _ _ _ _ _ _ _ _ _ _ _ _ _ _ _ _ _ _ _ _ _ _ _ _ _ _ _ _ _ _ _ _ _ _ _ _ _ _ _ _ _ _ _ _ _ _ _ (s.note tn k) v4 _ HR4.out HE.out hj
    | some t' =>
      obtain ⟨s1, v1, d0, d1, d2, hs1, hbr, _, hsep⟩ := HL.out.se.yes htl3 (Vf.cm_some hc)
      have HDB : Hid (D (Vf.andThen (if t'.st = k.st then (if Vf.Fl.eq (t'.fl.both k.fl) t'.fl = true then .ok s else .ok (s.note tn ⟨t'.st, t'.fl.both k.fl⟩)) else .error 8) (Vf.goAll c.u.code.length k (gs.drop (j + 1))))) := by
        have h1 := HDA.out
        unfold Vf.goOn at h1
        rw [if_pos (by omega)] at h1
        simp only [Int.toNat_natCast, hc] at h1
        exact h1
      have HC := hide hc
      clear HDA hc
      by_cases hst : t'.st = k.st
      · have hss : s1 = sb := bytes_eq (by rw [hs1, hsb.out, hst])
        have hse : (s1.toList == sb.toList) = true := by rw [hss]; simp
        have HDC : Hid (D (Vf.andThen (if Vf.Fl.eq (t'.fl.both k.fl) t'.fl = true then .ok s else .ok (s.note tn ⟨t'.st, t'.fl.both k.fl⟩)) (Vf.goAll c.u.code.length k (gs.drop (j + 1))))) := by
          have h1 := HDB.out
          rw [if_pos hst] at h1
          exact h1
        have HBR := hide hbr
        have HFT : Hid (Vf.FlOk c.u.locals.length t'.fl) := HL.out.flg tn t' HC.out
        have HST := hide hst
        have HL4 : Hid (L4 (w.heap.size + 1 + 1 + 1 + 1) c.u.locals.length c.u.code.length (w.heap.size + 1 + 1 + 1 + 1) tn C (Vf.cm c.u.locals.length s.come) nv.ownBlock t'.st t'.fl k.fl nv v1 wr 0 false wr) := by
          refine ⟨Nat.zero_le _, ?_, HL.out.now, rfl, World.grownBy.refl _ _, d2, rfl⟩
          have e : upd (Vf.cm c.u.locals.length s.come) tn (t'.st, Vf.bm c.u.locals.length t'.fl k.fl 0) = Vf.cm c.u.locals.length s.come := by
            funext i
            unfold upd
            by_cases hi : i = tn
            · rw [if_pos hi, hi, Vf.cm_some HC.out, Vf.bm_zero]
            · rw [if_neg hi]
          rw [e]
          exact HL.out.se
        obtain ⟨a1, c1, hv1⟩ := br_form hbr (Vf.bl_len _ _)
        subst hv1
        clear hss hst hbr hsep hs1 HDB
        go_wp2_with fail
        refine wp_loop_rounds (c := body4) (c.u.locals.length + 1) (loop4 (w.heap.size + 1 + 1 + 1 + 1) c.u.locals.length c.u.code.length (w.heap.size + 1 + 1 + 1 + 1) tn C (Vf.cm c.u.locals.length s.come) nv.ownBlock t'.st t'.fl k.fl nv _ wr htl3 hz1 _ _ _ _ _ _ _ _ _ _ _ _ _ _ _ _ _ _ _ _ _ _ _ _ _ _ _ _ _ _ _ _ _ _ _ _ _ _ _ _ _ _ _ _ _ _ _ _ _ _ _ _ _ _ _ _ _ _ _ _ _ _ _ _ _ _ _ _ _ _ _ _ _ _ _ _ _ _ _ _ _ _ _ _ _ _ _ _ _ _ _ _ _ _ _ _ _ _ _ _ _ _ _ _ _ _ _ _ _ _ _ _ _ _ _ _ _ _ _ _ _ _ _ _ _ _ _ _ _ _ _ _ _ _ _ _ _ _ _ _ _ _ _ _ _ _ _ _ _ _ _ _ _ _ _ _ _ _ _ _ _ _ _ _ _ _ _ _ _ _ _ _ _ _ _ _ _ _ _ _ _ _ _ _ _ _ _ _ _ _ _ _ _ _ _ _ _ _ _ _ _ _ _ _ _ _ _ _ _ _ _ _ _ _ _ _ _ _ _ _ _ _ _ _ _ _ _ _ _ _ _ _ _ _ _ _ _ _ _ _ _ _ _ _ _ _ _ _ _ _ _ _ _ _ _ _ _ _ _ _ _ _ _ _ _ _ _ _ _ _ _ _ _ _ _ _ _ _ _ _ ?_ (c.u.locals.length + 1) _ _ _ _ _ _ _ _ _ _ _ _ _ _ _ _ _ _ _ _ _ _ _ _ 0 false wr (by omega) HL4.out)
        intro x27 x277 x278 x279 x280 x281 x282 x283 x284 x285 x286 x287 x288 x289 x290 x291 x292 x293 x294 x295 x296 x297 x298 x299 x300 lb w4 hL4
        have HL5 := hide hL4
        have HLB : Hid (lb = !(Vf.Fl.eq (t'.fl.both k.fl) t'.fl)) := by
          unfold Hid
          rw [HL5.out.lb]
          exact Vf.less_eq HFT.out
        have HP := hide (HL.out.l4 HL5.out HBR.out)
        have HQ4 := hide (HL.out.q.keep (fun b hb => HP.out.2.2 b _ (qr_int HL.out.q hb).choose_spec))
        clear hL4
        cases lb with
        | true =>
          have HE : Hid (D (Vf.goAll c.u.code.length k (gs.drop (j + 1)) (s.note tn ⟨t'.st, t'.fl.both k.fl⟩))) := by
            have h1 := HDC.out
            have h2 := HLB.out
            cases he : Vf.Fl.eq (t'.fl.both k.fl) t'.fl with
            | true => rw [he] at h2; cases h2
            | false => rw [he] at h1; exact h1
          go_wp2_with (at_builtin; refine wpList_append_q2 rfl _ _ rfl (w.heap.size + 1 + 1 + 1 + 1) rv s.row tn rfl (HQ4.out.alloc _) _ rfl (one_news2 rfl) (by have := HL.out.few; omega) (by have := HP.out.1.lt; rw [World.size_alloc]; omega) ?_; intro v5 w5 hq5 hg5 hj5; have HR5 : Hid (L3 c kk AT NB C nn nv gs k w (s.note tn ⟨t'.st, t'.fl.both k.fl⟩) v5 (j + 1) w5) := HL.out.row HP.out.1 HP.out.2.1 HL5.out.now HP.out.2.2 hq5 hg5 hj5 (note_inv HL.out.inv htl3 (HL.out.inv.1 tn t' HC.out).2) (HL.out.flg.note HFT.out.both) hj; clear hq5 hg5 hj5)
          exact HK.out _ _ _ _ _ _ _ _ _ _ _ _ _ _ _ _ _ _ _ _ _ _ _ _ _ _ _ _ _ _ _ _ _ _ _ _ _ _ _ _ _ _ _ _ _ _ _ _ _ _ _ _ _ _ _ _ _ _ _ _ _ _ _ _ _ _ _ _ _ _ _ _ _ _ _ _ (s.note tn ⟨t'.st, t'.fl.both k.fl⟩) v5 _ HR5.out HE.out hj
        | false =>
          have HEQ : Hid (Vf.Fl.eq (t'.fl.both k.fl) t'.fl = true) := by
            have h2 := HLB.out
            cases he : Vf.Fl.eq (t'.fl.both k.fl) t'.fl with
            | true => rfl
            | false => rw [he] at h2; cases h2
          have HE : Hid (D (Vf.goAll c.u.code.length k (gs.drop (j + 1)) s)) := by
            have h1 := HDC.out
            rw [if_pos HEQ.out] at h1
            exact h1
          go_wp2
          exact HK.out _ _ _ _ _ _ _ _ _ _ _ _ _ _ _ _ _ _ _ _ _ _ _ _ _ _ _ _ _ _ _ _ _ _ _ _ _ _ _ _ _ _ _ _ _ _ _ _ _ _ _ _ _ _ _ _ _ _ _ _ _ _ _ _ _ _ _ _ _ _ _ _ _ _ _ _ s rv _ (HL.out.same HL5.out HBR.out HC.out (Vf.Fl.eq_iff.1 HEQ.out) hj) HE.out hj
      · have hse : (s1.toList == sb.toList) = false := by
          rw [Bool.eq_false_iff]
          intro e
          rw [beq_iff_eq, Lib.toList_data, Lib.toList_data, hs1, hsb.out] at e
          exact hst (list_inj (fun t ht => Vf.okt_lt hmu ((HL.out.inv.1 tn t' HC.out).2.1 t ht)) (fun t ht => Vf.okt_lt hmu (hks.out.1 t ht)) e)
        have HE : Hid (D (.error 8)) := by
          have h1 := HDB.out
          rw [if_neg hst] at h1
          exact h1
        clear hst hbr hsep hs1 HDB
        go_wp2_with fail
        refine (rbad_any (w.heap.size + 1) AT 8 (kk : Int) (nn : Int) _ (hide (one_cells HL.out.cd.kb)) (hide (one_cells HL.out.ab)) (by omega) (lt_of_block HL.out.ab)).mono ?_
        rintro e w9 ⟨rfl, hg9⟩
        have HW9 : Hid (w9.heap[w.heap.size + 1 + 1]? = some whZ) := (kept0 hg9 (lt_of_block HL.out.cd.wz)).trans HL.out.cd.wz
        have HG9 : Hid (w.grownBy w9 none) := grown0_tr' HL.out.cd.grown hg9
        obtain ⟨⟨z0, z1, z2⟩, y0, y1, y2⟩ := wh_cells HW9.out
        have hz9 := lt_of_block HW9.out
        clear hg9
        go_wp2
        exact HRT.out _ _ 8 HE.out (by decide) rfl rfl (wh_set HW9.out _ _ _) (grown0_setN (grown0_setN (grown0_setN HG9.out (by omega) _ _) (by omega) _ _) (by omega) _ _)
  · have hje : j = gs.length := by omega
    have HE : Hid (D (.ok s)) := by
      have h1 := hD.out
      rw [List.drop_eq_nil_of_le (by omega)] at h1
      exact h1
    subst hje
    clear hD
    go_wp2
    exact HX.out _ _ _ _ _ _ _ _ _ _ _ _ _ _ _ _ _ _ _ _ _ _ _ _ _ _ _ _ _ _ _ _ _ _ _ _ _ _ _ _ _ _ _ _ _ _ _ _ _ _ _ _ _ _ _ _ _ _ _ _ _ _ _ _ _ _ _ _ _ _ _ _ _ _ _ _ _ s rv _ HL.out HE.out

set_option maxRecDepth 1000000 in
theorem loop3 (c : FC) (kk AT NB C nn : Nat) (nv nx : Value) (sb : ByteArray) (gs : List Int) (k : Vf.Kn) (w : World) (D : Except Int Vf.S → Prop) (hsb : Hid (sb.data.toList = (k.st.map Vf.ltr).reverse)) (hks : Hid (OkS c.m k.st)) (hkf : Hid (Vf.FlOk c.u.locals.length k.fl)) (hgs : Hid (∀ t ∈ gs, 0 ≤ t ∧ t ≤ c.u.code.length)) (hnx : Hid (gs ≠ [] → nx = .slice (some ⟨NB, 0, none⟩) gs.length gs.length)) (hg2 : gs.length ≤ 2) (hz1 : c.u.locals.length ≤ 200) (hmu : c.m.units.length ≤ 30) (Q : Exit → Act → World → Prop) (t0 t1 t2 t7 t8 t11 t15 t16 t17 t18 t19 t20 t21 t22 t23 t28 t29 t30 t31 t32 t33 t34 t35 t36 t37 t38 t39 t40 t41 t42 t43 t44 t45 t46 t47 t48 t49 t50 t51 t52 t53 t54 t55 t56 t57 t58 t59 t60 t61 t62 t63 t64 t65 t66 t67 t68 t69 t70 t71 t72 t73 t74 t75 t76 t77 t78 t79 t80 t81 t82 t83 t84 t85 t86 t87 t88 t89 t90 t91 t92 t93 t94 t95 t96 t97 t98 t99 t100 t101 t102 t103 t104 t105 t106 t107 t108 t109 t110 t111 t112 t113 t114 t115 t116 t117 t118 t119 t120 t121 t122 t123 t124 t125 t126 t127 t128 t129 t130 t131 t132 t133 t134 t135 t136 t137 t138 t139 t140 t141 t142 t143 t144 t145 t146 t147 t148 t149 t150 t151 t152 t153 t154 t155 t156 t157 t158 t159 t160 t161 t162 t163 t164 t165 t166 t167 t168 t169 t170 t171 t172 t173 t174 t175 t176 t177 t178 t179 t180 t181 t182 t183 t184 t185 t186 t187 t188 t189 t190 t191 t192 t193 t194 t195 t196 t197 t198 t199 t200 t201 t202 t203 t204 t205 t206 t207 t208 t209 t210 t211 t212 t213 t214 t215 t216 t217 t218 t219 t220 t221 t222 t223 t224 t225 t226 t227 t228 t229 t230 t231 t307 : Value)
    (hE : ∀ (u24 u25 u26 u27 u234 u235 u236 u237 u238 u239 u240 u241 u242 u243 u244 u245 u246 u247 u248 u249 u250 u251 u252 u253 u254 u255 u256 u257 u258 u259 u260 u261 u262 u263 u264 u265 u266 u267 u268 u269 u270 u271 u272 u273 u274 u275 u276 u277 u278 u279 u280 u281 u282 u283 u284 u285 u286 u287 u288 u289 u290 u291 u292 u293 u294 u295 u296 u297 u298 u299 u300 u301 u302 u303 u304 u305 u306 : Value) (s : Vf.S) (rv : Value) (w' : World), L3 c kk AT NB C nn nv gs k w s rv gs.length w' → D (.ok s) → Q (.exit 5) ⟨#[t0, t1, t2, .pointer (some ⟨w.heap.size + 1, 0, none⟩), .pointer (some ⟨w.heap.size + 1 + 1, 0, none⟩), .pointer (some ⟨w.heap.size + 1 + 1 + 1, 0, none⟩), .slice (some ⟨w.heap.size + 1 + 1 + 1 + 1, 0, none⟩) c.u.code.length c.u.code.length, t7, t8, rv, .pointer (some ⟨AT, 0, none⟩), t11, nv, .string sb, .func (.func 32) #[] #[.pointer (some ⟨w.heap.size + 1, 0, none⟩), .pointer (some ⟨AT, 0, none⟩)], t15, t16, t17, t18, t19, t20, t21, t22, t23, u24, u25, u26, u27, t28, t29, t30, t31, t32, t33, t34, t35, t36, t37, t38, t39, t40, t41, t42, t43, t44, t45, t46, t47, t48, t49, t50, t51, t52, t53, t54, t55, t56, t57, t58, t59, t60, t61, t62, t63, t64, t65, t66, t67, t68, t69, t70, t71, t72, t73, t74, t75, t76, t77, t78, t79, t80, t81, t82, t83, t84, t85, t86, t87, t88, t89, t90, t91, t92, t93, t94, t95, t96, t97, t98, t99, t100, t101, t102, t103, t104, t105, t106, t107, t108, t109, t110, t111, t112, t113, t114, t115, t116, t117, t118, t119, t120, t121, t122, t123, t124, t125, t126, t127, t128, t129, t130, t131, t132, t133, t134, t135, t136, t137, t138, t139, t140, t141, t142, t143, t144, t145, t146, t147, t148, t149, t150, t151, t152, t153, t154, t155, t156, t157, t158, t159, t160, t161, t162, t163, t164, t165, t166, t167, t168, t169, t170, t171, t172, t173, t174, t175, t176, t177, t178, t179, t180, t181, t182, t183, t184, t185, t186, t187, t188, t189, t190, t191, t192, t193, t194, t195, t196, t197, t198, t199, t200, t201, t202, t203, t204, t205, t206, t207, t208, t209, t210, t211, t212, t213, t214, t215, t216, t217, t218, t219, t220, t221, t222, t223, t224, t225, t226, t227, t228, t229, t230, t231, nx, .int .i64 (gs.length : Int), u234, u235, u236, u237, u238, u239, u240, u241, u242, u243, u244, u245, u246, u247, u248, u249, u250, u251, u252, u253, u254, u255, u256, u257, u258, u259, u260, u261, u262, u263, u264, u265, u266, u267, u268, u269, u270, u271, u272, u273, u274, u275, u276, u277, u278, u279, u280, u281, u282, u283, u284, u285, u286, u287, u288, u289, u290, u291, u292, u293, u294, u295, u296, u297, u298, u299, u300, u301, u302, u303, u304, u305, u306, t307], []⟩ w')
    (hRt : ∀ (a : Act) (w' : World) (e : Int), D (.error e) → e ≠ 0 → a.tmps[4]? = some (.pointer (some ⟨w.heap.size + 1 + 1, 0, none⟩)) → a.defers = [] → w'.heap[w.heap.size + 1 + 1]? = some (.cells #[.int .i64 e, .int .i64 (kk : Int), .int .i64 (nn : Int)] 28 (0, 0)) → w.grownBy w' none → Q .ret a w') :
    ∀ (f : Nat) (t24 t25 t26 t27 t235 t236 t237 t238 t239 t240 t241 t242 t243 t244 t245 t246 t247 t248 t249 t250 t251 t252 t253 t254 t255 t256 t257 t258 t259 t260 t261 t262 t263 t264 t265 t266 t267 t268 t269 t270 t271 t272 t273 t274 t275 t276 t277 t278 t279 t280 t281 t282 t283 t284 t285 t286 t287 t288 t289 t290 t291 t292 t293 t294 t295 t296 t297 t298 t299 t300 t301 t302 t303 t304 t305 t306 : Value) (s : Vf.S) (rv : Value) (j : Nat) (wr : World), gs.length - j < f → L3 c kk AT NB C nn nv gs k w s rv j wr → D (Vf.goAll c.u.code.length k (gs.drop j) s) → Code.rounds Try.prog body3 Q f ⟨#[t0, t1, t2, .pointer (some ⟨w.heap.size + 1, 0, none⟩), .pointer (some ⟨w.heap.size + 1 + 1, 0, none⟩), .pointer (some ⟨w.heap.size + 1 + 1 + 1, 0, none⟩), .slice (some ⟨w.heap.size + 1 + 1 + 1 + 1, 0, none⟩) c.u.code.length c.u.code.length, t7, t8, rv, .pointer (some ⟨AT, 0, none⟩), t11, nv, .string sb, .func (.func 32) #[] #[.pointer (some ⟨w.heap.size + 1, 0, none⟩), .pointer (some ⟨AT, 0, none⟩)], t15, t16, t17, t18, t19, t20, t21, t22, t23, t24, t25, t26, t27, t28, t29, t30, t31, t32, t33, t34, t35, t36, t37, t38, t39, t40, t41, t42, t43, t44, t45, t46, t47, t48, t49, t50, t51, t52, t53, t54, t55, t56, t57, t58, t59, t60, t61, t62, t63, t64, t65, t66, t67, t68, t69, t70, t71, t72, t73, t74, t75, t76, t77, t78, t79, t80, t81, t82, t83, t84, t85, t86, t87, t88, t89, t90, t91, t92, t93, t94, t95, t96, t97, t98, t99, t100, t101, t102, t103, t104, t105, t106, t107, t108, t109, t110, t111, t112, t113, t114, t115, t116, t117, t118, t119, t120, t121, t122, t123, t124, t125, t126, t127, t128, t129, t130, t131, t132, t133, t134, t135, t136, t137, t138, t139, t140, t141, t142, t143, t144, t145, t146, t147, t148, t149, t150, t151, t152, t153, t154, t155, t156, t157, t158, t159, t160, t161, t162, t163, t164, t165, t166, t167, t168, t169, t170, t171, t172, t173, t174, t175, t176, t177, t178, t179, t180, t181, t182, t183, t184, t185, t186, t187, t188, t189, t190, t191, t192, t193, t194, t195, t196, t197, t198, t199, t200, t201, t202, t203, t204, t205, t206, t207, t208, t209, t210, t211, t212, t213, t214, t215, t216, t217, t218, t219, t220, t221, t222, t223, t224, t225, t226, t227, t228, t229, t230, t231, nx, .int .i64 (gs.length : Int), .int .i64 (j : Int), t235, t236, t237, t238, t239, t240, t241, t242, t243, t244, t245, t246, t247, t248, t249, t250, t251, t252, t253, t254, t255, t256, t257, t258, t259, t260, t261, t262, t263, t264, t265, t266, t267, t268, t269, t270, t271, t272, t273, t274, t275, t276, t277, t278, t279, t280, t281, t282, t283, t284, t285, t286, t287, t288, t289, t290, t291, t292, t293, t294, t295, t296, t297, t298, t299, t300, t301, t302, t303, t304, t305, t306, t307], []⟩ wr
  | 0, t24, t25, t26, t27, t235, t236, t237, t238, t239, t240, t241, t242, t243, t244, t245, t246, t247, t248, t249, t250, t251, t252, t253, t254, t255, t256, t257, t258, t259, t260, t261, t262, t263, t264, t265, t266, t267, t268, t269, t270, t271, t272, t273, t274, t275, t276, t277, t278, t279, t280, t281, t282, t283, t284, t285, t286, t287, t288, t289, t290, t291, t292, t293, t294, t295, t296, t297, t298, t299, t300, t301, t302, t303, t304, t305, t306, _, _, _, _, h, _, _ => absurd h (Nat.not_lt_zero _)
  | f + 1, t24, t25, t26, t27, t235, t236, t237, t238, t239, t240, t241, t242, t243, t244, t245, t246, t247, t248, t249, t250, t251, t252, t253, t254, t255, t256, t257, t258, t259, t260, t261, t262, t263, t264, t265, t266, t267, t268, t269, t270, t271, t272, t273, t274, t275, t276, t277, t278, t279, t280, t281, t282, t283, t284, t285, t286, t287, t288, t289, t290, t291, t292, t293, t294, t295, t296, t297, t298, t299, t300, t301, t302, t303, t304, t305, t306, s, rv, j, wr, h, hL, hD => round3 t0 t1 t2 t7 t8 t11 t15 t16 t17 t18 t19 t20 t21 t22 t23 t24 t25 t26 t27 t28 t29 t30 t31 t32 t33 t34 t35 t36 t37 t38 t39 t40 t41 t42 t43 t44 t45 t46 t47 t48 t49 t50 t51 t52 t53 t54 t55 t56 t57 t58 t59 t60 t61 t62 t63 t64 t65 t66 t67 t68 t69 t70 t71 t72 t73 t74 t75 t76 t77 t78 t79 t80 t81 t82 t83 t84 t85 t86 t87 t88 t89 t90 t91 t92 t93 t94 t95 t96 t97 t98 t99 t100 t101 t102 t103 t104 t105 t106 t107 t108 t109 t110 t111 t112 t113 t114 t115 t116 t117 t118 t119 t120 t121 t122 t123 t124 t125 t126 t127 t128 t129 t130 t131 t132 t133 t134 t135 t136 t137 t138 t139 t140 t141 t142 t143 t144 t145 t146 t147 t148 t149 t150 t151 t152 t153 t154 t155 t156 t157 t158 t159 t160 t161 t162 t163 t164 t165 t166 t167 t168 t169 t170 t171 t172 t173 t174 t175 t176 t177 t178 t179 t180 t181 t182 t183 t184 t185 t186 t187 t188 t189 t190 t191 t192 t193 t194 t195 t196 t197 t198 t199 t200 t201 t202 t203 t204 t205 t206 t207 t208 t209 t210 t211 t212 t213 t214 t215 t216 t217 t218 t219 t220 t221 t222 t223 t224 t225 t226 t227 t228 t229 t230 t231 t235 t236 t237 t238 t239 t240 t241 t242 t243 t244 t245 t246 t247 t248 t249 t250 t251 t252 t253 t254 t255 t256 t257 t258 t259 t260 t261 t262 t263 t264 t265 t266 t267 t268 t269 t270 t271 t272 t273 t274 t275 t276 t277 t278 t279 t280 t281 t282 t283 t284 t285 t286 t287 t288 t289 t290 t291 t292 t293 t294 t295 t296 t297 t298 t299 t300 t301 t302 t303 t304 t305 t306 t307 c kk AT NB C nn nv nx sb gs k w D hsb hks hkf hgs hnx hg2 hz1 hmu s rv j wr hL hD _ Q (fun u24 u25 u26 u27 u235 u236 u237 u238 u239 u240 u241 u242 u243 u244 u245 u246 u247 u248 u249 u250 u251 u252 u253 u254 u255 u256 u257 u258 u259 u260 u261 u262 u263 u264 u265 u266 u267 u268 u269 u270 u271 u272 u273 u274 u275 u276 u277 u278 u279 u280 u281 u282 u283 u284 u285 u286 u287 u288 u289 u290 u291 u292 u293 u294 u295 u296 u297 u298 u299 u300 u301 u302 u303 u304 u305 u306 s rv w' hL' hD' hj => loop3 c kk AT NB C nn nv nx sb gs k w D hsb hks hkf hgs hnx hg2 hz1 hmu Q t0 t1 t2 t7 t8 t11 t15 t16 t17 t18 t19 t20 t21 t22 t23 t28 t29 t30 t31 t32 t33 t34 t35 t36 t37 t38 t39 t40 t41 t42 t43 t44 t45 t46 t47 t48 t49 t50 t51 t52 t53 t54 t55 t56 t57 t58 t59 t60 t61 t62 t63 t64 t65 t66 t67 t68 t69 t70 t71 t72 t73 t74 t75 t76 t77 t78 t79 t80 t81 t82 t83 t84 t85 t86 t87 t88 t89 t90 t91 t92 t93 t94 t95 t96 t97 t98 t99 t100 t101 t102 t103 t104 t105 t106 t107 t108 t109 t110 t111 t112 t113 t114 t115 t116 t117 t118 t119 t120 t121 t122 t123 t124 t125 t126 t127 t128 t129 t130 t131 t132 t133 t134 t135 t136 t137 t138 t139 t140 t141 t142 t143 t144 t145 t146 t147 t148 t149 t150 t151 t152 t153 t154 t155 t156 t157 t158 t159 t160 t161 t162 t163 t164 t165 t166 t167 t168 t169 t170 t171 t172 t173 t174 t175 t176 t177 t178 t179 t180 t181 t182 t183 t184 t185 t186 t187 t188 t189 t190 t191 t192 t193 t194 t195 t196 t197 t198 t199 t200 t201 t202 t203 t204 t205 t206 t207 t208 t209 t210 t211 t212 t213 t214 t215 t216 t217 t218 t219 t220 t221 t222 t223 t224 t225 t226 t227 t228 t229 t230 t231 t307 hE hRt f u24 u25 u26 u27 u235 u236 u237 u238 u239 u240 u241 u242 u243 u244 u245 u246 u247 u248 u249 u250 u251 u252 u253 u254 u255 u256 u257 u258 u259 u260 u261 u262 u263 u264 u265 u266 u267 u268 u269 u270 u271 u272 u273 u274 u275 u276 u277 u278 u279 u280 u281 u282 u283 u284 u285 u286 u287 u288 u289 u290 u291 u292 u293 u294 u295 u296 u297 u298 u299 u300 u301 u302 u303 u304 u305 u306 s rv (j + 1) w' (by omega) hL' hD') hE hRt
end Go.Proofs.Ytbkimpimoclobaa

/- The document's answer, chapter 7: what holds in a round of Code. -/
namespace Go.Proofs.Ytbkimpimoclobaa
open Go.RowKit

set_option maxRecDepth 100000 in
/-- The row without its first. -/
theorem row_tail {w : World} {B x : Nat} {rv : Value} {ws : List Nat} (h : QR w B rv (x :: ws)) : ∃ g off cap rv', rv = .slice (some ⟨g, off, none⟩) (ws.length + 1) cap ∧ w.cell? ⟨g, off, none⟩ = some (.int .i64 (x : Int)) ∧ g < w.heap.size ∧ B ≤ g ∧ QR w B rv' ws ∧ rv'.ownBlock = some g ∧ (∀ W : World, (Instr.sliceAt 32 (.slice (some ⟨g, off, none⟩) (ws.length + 1) cap) (some (.int .i64 1)) none none).run Try.prog W = .ok rv' W) ∧ (∀ W : World, (Instr.slice 32 (.slice (some ⟨g, off, none⟩) (ws.length + 1) cap) (some (.int .i64 1)) none none).run Try.prog W = .ok rv' W) := by
  obtain ⟨g, off, cap, hrv, hcap, cx, hq1, hq2⟩ := h.pop
  have hg := h.lt g (by rw [hrv]; rfl)
  obtain ⟨i0, hi, z0, z1, z2⟩ := info_parts Try.info3
  have hsz : ∀ W : World, (sizeOf 3).run Try.prog W = .ok 1 W := fun W => by simp [sizeOf, typeInfo, hi, z1]
  have hrun : ∀ W : World, (Instr.slice 32 (.slice (some ⟨g, off, none⟩) (ws.length + 1) cap) (some (.int .i64 1)) none none).run Try.prog W = .ok (sliced (some ⟨g, off, none⟩) 1 (ws.length + 1) cap 1) W := fun W => by
    have := run_slice_l (P := Try.prog) W 32 (some ⟨g, off, none⟩) (ws.length + 1) cap Try.underlying32 .i64 1 (by decide) (by omega)
    rw [this]
    have e : Try.prog.elem 32 = 3 := by kernel_rfl
    rw [e, hsz]
    rfl
  refine ⟨g, off, cap, sliced (some ⟨g, off, none⟩) 1 (ws.length + 1) cap 1, hrv, cx, hg.2, hg.1, ?_, ?_, fun W => ?_, hrun⟩
  · by_cases hc : cap = 1
    · subst hc
      have hl : ws.length = 0 := by omega
      have := hq1 rfl
      simp [sliced]
      rw [hl]
      exact this
    · have := hq2 hc
      simp [sliced, hc]
      exact this
  · unfold sliced Value.ownBlock
    by_cases hc : cap = 1
    · simp [hc]
    · simp [hc, add_none]
  · rw [run_sliceAt_slice W 32 _ _ _ _ Try.underlying32]
    exact hrun W
theorem SeAt.nowv {B n len SB : Nat} {come : Nat → Option (List Int × List Bool)} {w w' : World} {v : Value} (h : SeAt B n len SB come none w) (hg : w.grownBy w' none) (hX : ∀ g, v.ownBlock = some g → w.heap.size ≤ g) : SeAt B n len SB come v.ownBlock w' := by
  cases hv : v.ownBlock with
  | none => exact h.grown hg
  | some g => exact h.now hg (hX g hv)

/-- In a round: an instruction is at hand. -/
structure RX (c : FC) (kk n : Nat) (op a nn : Int) (AT C : Nat) (nv : Value) (fl : Vf.Fl) (s : Vf.S) (rv : Value) (w W : World) : Prop where
  cd : CdAt c kk w W
  se : SeAt (w.heap.size + 1 + 1 + 1 + 1) c.u.locals.length c.u.code.length (w.heap.size + 1 + 1 + 1 + 1) (Vf.cm c.u.locals.length s.come) nv.ownBlock W
  now : BR W C nv (Vf.bl c.u.locals.length fl)
  q : QR W (w.heap.size + 1 + 1 + 1 + 1) rv s.row
  qa : ∀ b, rv.ownBlock = some b → b < AT
  ab : W.heap[AT]? = some (kO n)
  ib : W.heap[AT + 1]? = some (inO op a nn)
  ha : w.heap.size + 1 + 1 + 1 + 1 ≤ AT
  inv : Inv c.m c.u s
  flg : Vf.Flg c.u.locals.length s
  few : s.row.length ≤ 90000000
theorem RX.next {c : FC} {kk n AT C : Nat} {op a nn : Int} {nv rv : Value} {fl : Vf.Fl} {s : Vf.S} {w W W' : World} (h : RX c kk n op a nn AT C nv fl s rv w W) (hg : W.grownBy W' none) : RX c kk n op a nn AT C nv fl s rv w W' :=
  ⟨h.cd.next hg, h.se.grown hg, br_grown h.now hg, h.q.keep (fun b hb => kept0 hg (h.q.lt b hb).2), h.qa, (kept0 hg (lt_of_block h.ab)).trans h.ab, (kept0 hg (lt_of_block h.ib)).trans h.ib, h.ha, h.inv, h.flg, h.few⟩
/-- A round begins. -/
theorem rx_start {c : FC} {kk n g : Nat} {op a nn : Int} {come : Nat → Option Vf.Kn} {row : List Nat} {rv rv' v2 : Value} {w wr w2 : World} {k : Vf.Kn} (hC : CoAt c kk w ⟨come, n :: row⟩ rv wr) (hq : QR wr (w.heap.size + 1 + 1 + 1 + 1) rv' row) (ho : rv'.ownBlock = some g) (hg : g < wr.heap.size) (hm : Vf.mu c.u.code.length ⟨come, n :: row⟩ ≤ 3000000)
    (hgg : (((wr.alloc (kO n)).alloc (inO op a nn)).alloc (.cells #[] 4)).grownBy w2 (some (wr.heap.size + 1 + 1))) (hb : BR w2 (wr.heap.size + 1 + 1) v2 (Vf.bl c.u.locals.length k.fl)) : RX c kk n op a nn wr.heap.size (wr.heap.size + 1 + 1) v2 k.fl ⟨come, row⟩ rv' w w2 := by
  obtain ⟨t0, t1, t2, t3⟩ := three_new wr (kO n) (inO op a nn) (.cells #[] 4)
  have hgr : wr.grownBy w2 none := t0.andThen hgg (fun j e => .inl (by cases e; omega))
  have hl := hC.cd.lt
  have hf : row.length ≤ 3000000 := by
    have := Vf.row_few (len := c.u.code.length) (s := ⟨come, n :: row⟩)
    simp at this
    omega
  refine ⟨hC.cd.next hgr, hC.se.nowv hgr (fun b hb' => by have := (br_ty hb hb').1; omega), hb, hq.keep (fun b hb' => kept0 hgr (hq.lt b hb').2), fun b hb' => ?_, (hgg.block _ (lt_of_block t1) (by simp; omega)).trans t1, (hgg.block _ (lt_of_block t2) (by simp)).trans t2, by omega, ⟨hC.inv.come, fun j hj => hC.inv.row j (List.mem_cons_of_mem _ hj)⟩, hC.flg, by show row.length ≤ _; omega⟩
  rw [ho] at hb'
  cases hb'
  exact hg
/-- A local has something from now on. -/
theorem RX.store {c : FC} {kk n AT C g cap x : Nat} {op a nn : Int} {rv : Value} {fl : Vf.Fl} {s : Vf.S} {w W : World} (h : RX c kk n op a nn AT C (.slice (some ⟨g, 0, none⟩) c.u.locals.length cap) fl s rv w W) (hz : c.u.locals.length ≤ 200) (hC : w.heap.size + 1 + 1 + 1 + 1 ≤ C) : RX c kk n op a nn AT C (.slice (some ⟨g, 0, none⟩) c.u.locals.length cap) (fl.fill x) s rv w (W.setCell ⟨g, x, none⟩ (.bool true)) := by
  obtain ⟨hCg, cs, hb⟩ := br_ty h.now (g := g) rfl
  have far : ∀ (b : Nat) (cs' : Array Value) (t : TypeId), W.heap[b]? = some (.cells cs' t (0, 0)) → t ≠ 4 → (W.setCell ⟨g, x, none⟩ (.bool true)).heap[b]? = W.heap[b]? := fun b cs' t hb' ht => Below.heap_setCell _ ⟨g, x, none⟩ _ _ (fun e => by
    have e' : b = g := e
    subst e'
    rw [hb] at hb'
    cases hb'
    exact ht rfl)
  obtain ⟨cs0, hS⟩ := h.se.blk
  refine ⟨h.cd.set (by omega) _ _, h.se.keep (far _ _ _ hS (by decide)) (fun g' cs' hne hc => Below.heap_setCell _ ⟨g, x, none⟩ _ _ (fun e => hne (by have e' : g' = g := e; rw [e']; rfl))), ?_, h.q.keep (fun b hb' => far b _ _ (qr_int h.q hb').choose_spec (by decide)), h.qa, (far _ _ _ h.ab (by decide)).trans h.ab, (far _ _ _ h.ib (by decide)).trans h.ib, h.ha, h.inv, h.flg, h.few⟩
  rw [Vf.bl_fill _ hz]
  exact br_set2 h.now (Vf.bl_len _ _) true
/-- The loop over what comes next begins. -/
theorem RX.l3 {c : FC} {kk n AT C NB : Nat} {op a nn : Int} {nv rv : Value} {fl : Vf.Fl} {st : List Int} {s : Vf.S} {w W : World} {gs : List Int} (h : RX c kk n op a nn AT C nv fl s rv w W) (hN : gs ≠ [] → W.heap[NB]? = some (.cells (List.toArray (ints64 gs)) 3 (0, 0))) (hNB : ∀ b, rv.ownBlock = some b → b < NB) : L3 c kk AT NB C n nv gs ⟨st, fl⟩ w s rv 0 W :=
  ⟨h.cd, h.se, h.now, h.q, fun e => by have := h.qa _ e; omega, fun e => by have := hNB _ e; omega, h.ab, hN, h.ha, h.inv, h.flg, by have := h.few; omega, Nat.zero_le _⟩

theorem lmap_err {r : Except Int (List Int)} {e : Int} (h : Vf.lmap r = .error e) : r = .error e := by
  cases r with
  | error e' => cases h; rfl
  | ok st => cases h
theorem lmap_ok {r : Except Int (List Int)} {bs : List UInt8} (h : Vf.lmap r = .ok bs) : ∃ st, r = .ok st ∧ bs = st.map Vf.ltr := by
  cases r with
  | error e' => cases h
  | ok st => cases h; exact ⟨st, rfl, rfl⟩
theorem rr_bad {m : Vf.Md} {u : Vf.Un} {x : Vf.Ins} {k : Vf.Kn} {D : Except Int Vf.S → Prop} {F : Vf.Kn → Except Int Vf.S} (hD : D (Vf.andThen (Vf.reck m u x k) F)) (heq : Vf.rreck m u x k = Vf.lmap (Vf.reckS m u x k)) {e : Int} (he : Vf.rreck m u x k = .error e) : D (.error e) := by
  rw [heq] at he
  unfold Vf.reck at hD
  rw [lmap_err he] at hD
  exact hD
theorem rr_ok {m : Vf.Md} {u : Vf.Un} {x : Vf.Ins} {k : Vf.Kn} {D : Except Int Vf.S → Prop} {F : Vf.Kn → Except Int Vf.S} (hD : D (Vf.andThen (Vf.reck m u x k) F)) (heq : Vf.rreck m u x k = Vf.lmap (Vf.reckS m u x k)) {bs : List UInt8} (he : Vf.rreck m u x k = .ok bs) : ∃ st, bs = st.map Vf.ltr ∧ Vf.reck m u x k = .ok ⟨st, Vf.reckF x k.fl⟩ ∧ D (F ⟨st, Vf.reckF x k.fl⟩) := by
  rw [heq] at he
  obtain ⟨st, h1, h2⟩ := lmap_ok he
  have e : Vf.reck m u x k = .ok ⟨st, Vf.reckF x k.fl⟩ := by
    unfold Vf.reck
    rw [h1]
    rfl
  rw [e] at hD
  exact ⟨st, h2, e, hD⟩
/-- What an instruction does, but for what goes wrong early, and what speaks of what was started. -/
theorem rreck_go {m : Vf.Md} {u : Vf.Un} {x : Vf.Ins} {k : Vf.Kn} (h3 : ¬ (x.op = 3 ∧ k.fl.has x.a.toNat = false)) (he : ¬ Vf.early u x) {p : List UInt8 × List UInt8} (hn : Vf.rneed m u x k.st = .ok p) : Vf.rreck m u x k = Vf.andThen (Vf.rtk p.1.reverse (k.st.map Vf.ltr) 0) fun r => Vf.rput x p.2 r := by
  unfold Vf.rreck
  rw [if_neg h3, if_neg he, hn]
  rfl
/-- What was wrong in the end; M: how much there was to come. -/
def DD (c : FC) (er num : Int) (n f M : Nat) (r : Except Int Vf.S) : Prop := match r with
  | .error e => er = e ∧ num = (n : Int)
  | .ok s => (er, num) = ((Vf.flow c.m c.u f s).1, ((Vf.flow c.m c.u f s).2 : Int)) ∧ Vf.mu c.u.code.length s ≤ M
theorem dd_look {c : FC} {er num : Int} {n f : Nat} {come : Nat → Option Vf.Kn} {row : List Nat} {k : Vf.Kn} {x : Vf.Ins} (hfo : Vf.Forms c.m c.u) (h : (er, num) = ((Vf.flow c.m c.u (f + 1) ⟨come, n :: row⟩).1, ((Vf.flow c.m c.u (f + 1) ⟨come, n :: row⟩).2 : Int))) (hk : come n = some k) (hx : c.u.code[n]? = some x) :
    DD c er num n f (Vf.mu c.u.code.length ⟨come, row⟩) (Vf.andThen (Vf.reck c.m c.u x k) fun k' => Vf.goAll c.u.code.length k' (Vf.goes x n) ⟨come, row⟩) := by
  have e : Vf.look c.m c.u n ⟨come, row⟩ = Vf.andThen (Vf.reck c.m c.u x k) fun k' => Vf.goAll c.u.code.length k' (Vf.goes x n) ⟨come, row⟩ := by
    unfold Vf.look
    simp only [hk, hx]
  rw [← e]
  cases hl : Vf.look c.m c.u n ⟨come, row⟩ with
  | error er' =>
    have h2 : Vf.flow c.m c.u (f + 1) ⟨come, n :: row⟩ = (er', n) := by
      unfold Vf.flow
      simp only
      rw [hl]
    rw [h2] at h
    cases h
    exact ⟨rfl, rfl⟩
  | ok s' =>
    have h2 : Vf.flow c.m c.u (f + 1) ⟨come, n :: row⟩ = Vf.flow c.m c.u f s' := by
      conv => lhs; unfold Vf.flow
      simp only
      rw [hl]
    rw [h2] at h
    exact ⟨h, Vf.look_mu hfo hl⟩
/-- How much is wanted, and put, at most. -/
theorem needs_few {m : Vf.Md} {u : Vf.Un} {x : Vf.Ins} (hR : Rt m) (hf : Vf.formE m u x = 0) : (Vf.needs m u x).1.length ≤ 6 ∧ (Vf.needs m u x).2.length ≤ 1 := by
  have hp : ∀ kd, Vf.is m kd x.a = true → (Vf.params m x.a).length ≤ 6 := fun kd hk => by
    obtain ⟨h1, _⟩ := callee_of hR hk
    have := h1.p6
    have := h1.p0
    unfold Vf.params
    rw [List.length_take]
    omega
  obtain ⟨_, _, hrg⟩ := formE_zero hf
  by_cases h23 : x.op = 23
  · have hk : Vf.is m 2 x.a = true := by
      unfold Vf.ranged at hrg
      rw [if_neg (by omega), if_neg (by omega), if_neg (by omega), if_pos h23] at hrg
      exact hrg
    have := hp 2 hk
    have e : Vf.needs m u x = ((Vf.params m x.a).map Vf.ltr, [Vf.ltr (Vf.unit m x.a).result]) := by
      unfold Vf.needs
      iterate 13 rw [if_neg (by omega)]
      rw [if_pos h23]
    rw [e]
    exact ⟨by simpa using this, by simp⟩
  by_cases h29 : x.op = 29
  · have hk : Vf.is m 3 x.a = true := by
      unfold Vf.ranged at hrg
      rw [if_neg (by omega), if_neg (by omega), if_neg (by omega), if_neg (by omega), if_pos h29] at hrg
      exact hrg
    have := hp 3 hk
    have e : Vf.needs m u x = ((Vf.params m x.a).map Vf.ltr, [Vf.ltr (10 + x.a)]) := by
      unfold Vf.needs
      iterate 14 rw [if_neg (by omega)]
      rw [if_pos h29]
    rw [e]
    exact ⟨by simpa using this, by simp⟩
  unfold Vf.needs
  rw [if_neg h23, if_neg h29]
  refine ite_ind (P := fun p : List UInt8 × List UInt8 => p.1.length ≤ 6 ∧ p.2.length ≤ 1) (fun _ => ⟨by simp, by simp⟩) (fun _ => ?_)
  refine ite_ind (P := fun p : List UInt8 × List UInt8 => p.1.length ≤ 6 ∧ p.2.length ≤ 1) (fun _ => ⟨by simp, by simp⟩) (fun _ => ?_)
  refine ite_ind (P := fun p : List UInt8 × List UInt8 => p.1.length ≤ 6 ∧ p.2.length ≤ 1) (fun _ => ⟨by simp, by simp⟩) (fun _ => ?_)
  refine ite_ind (P := fun p : List UInt8 × List UInt8 => p.1.length ≤ 6 ∧ p.2.length ≤ 1) (fun _ => ⟨by simp, by simp⟩) (fun _ => ?_)
  refine ite_ind (P := fun p : List UInt8 × List UInt8 => p.1.length ≤ 6 ∧ p.2.length ≤ 1) (fun _ => ⟨by simp, by simp⟩) (fun _ => ?_)
  refine ite_ind (P := fun p : List UInt8 × List UInt8 => p.1.length ≤ 6 ∧ p.2.length ≤ 1) (fun _ => ⟨by simp, by simp⟩) (fun _ => ?_)
  refine ite_ind (P := fun p : List UInt8 × List UInt8 => p.1.length ≤ 6 ∧ p.2.length ≤ 1) (fun _ => ⟨by simp, by simp⟩) (fun _ => ?_)
  refine ite_ind (P := fun p : List UInt8 × List UInt8 => p.1.length ≤ 6 ∧ p.2.length ≤ 1) (fun _ => ⟨by simp, by simp⟩) (fun _ => ?_)
  refine ite_ind (P := fun p : List UInt8 × List UInt8 => p.1.length ≤ 6 ∧ p.2.length ≤ 1) (fun _ => ⟨by simp, by simp⟩) (fun _ => ?_)
  refine ite_ind (P := fun p : List UInt8 × List UInt8 => p.1.length ≤ 6 ∧ p.2.length ≤ 1) (fun _ => ⟨by simp, by simp⟩) (fun _ => ?_)
  refine ite_ind (P := fun p : List UInt8 × List UInt8 => p.1.length ≤ 6 ∧ p.2.length ≤ 1) (fun _ => ⟨by simp, by simp⟩) (fun _ => ?_)
  refine ite_ind (P := fun p : List UInt8 × List UInt8 => p.1.length ≤ 6 ∧ p.2.length ≤ 1) (fun _ => ⟨by simp, by simp⟩) (fun _ => ?_)
  refine ite_ind (P := fun p : List UInt8 × List UInt8 => p.1.length ≤ 6 ∧ p.2.length ≤ 1) (fun _ => ⟨by simp, by simp⟩) (fun _ => ?_)
  refine ite_ind (P := fun p : List UInt8 × List UInt8 => p.1.length ≤ 6 ∧ p.2.length ≤ 1) (fun _ => ⟨by simp, by simp⟩) (fun _ => ?_)
  refine ite_ind (P := fun p : List UInt8 × List UInt8 => p.1.length ≤ 6 ∧ p.2.length ≤ 1) (fun _ => ⟨by simp, by simp⟩) (fun _ => ?_)
  refine ite_ind (P := fun p : List UInt8 × List UInt8 => p.1.length ≤ 6 ∧ p.2.length ≤ 1) (fun _ => ⟨by simp, by simp⟩) (fun _ => ?_)
  refine ite_ind (P := fun p : List UInt8 × List UInt8 => p.1.length ≤ 6 ∧ p.2.length ≤ 1) (fun _ => ⟨by simp, by simp⟩) (fun _ => ⟨by simp, by simp⟩)
theorem rtk_len : ∀ (ws st : List UInt8) (last : UInt8) (l : List UInt8), Vf.rtk ws st last = .ok l → l.length ≤ st.length
  | [], st, _, l, h => by cases h; exact Nat.le_refl _
  | _ :: _, [], _, l, h => by cases h
  | c :: ws, x :: st, last, l, h => by
    unfold Vf.rtk at h
    split at h
    · have := rtk_len ws st last l h; simp; omega
    · split at h
      · split at h
        · cases h
        · have := rtk_len ws st x l h; simp; omega
      · split at h
        · have := rtk_len ws st last l h; simp; omega
        · cases h
theorem rput_split {x : Vf.Ins} {put rest : List UInt8} : Vf.rput x put rest = if 300 < (put.reverse ++ rest).length then .error 4 else if (x.op = 24 ∨ x.op = 25) ∧ put.reverse ++ rest ≠ [] then .error 12 else .ok (put.reverse ++ rest) := rfl
theorem heap_new2 {W : World} {o : Obj} {q : Nat} (hq : q = W.heap.size) : (W.alloc o).heap[q]? = some o := by
  subst hq
  exact heap_alloc_new W o
end Go.Proofs.Ytbkimpimoclobaa

