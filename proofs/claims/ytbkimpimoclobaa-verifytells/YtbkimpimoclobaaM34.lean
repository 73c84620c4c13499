/- The document's answer, chapter 7, walked: Code's innermost loop. (Laid by tools/mkcode4.py.) -/
import Derived.Test.YtbkimpimoclobaaM33
import Derived.LoopN
namespace Go.Proofs.Ytbkimpimoclobaa
open Go.RowKit

def loopsIn : Code → List Code
  | .loop c => [c]
  | .seq a b => loopsIn a ++ loopsIn b
  | .block _ c => loopsIn c
  | .scope c => loopsIn c
  | .cond _ a b => loopsIn a ++ loopsIn b
  | _ => []
noncomputable def body2 : Code := (((Try.f18.body.map loopsIn).getD [])[1]?).getD .skip
noncomputable def body3 : Code := ((loopsIn body2)[0]?).getD .skip
noncomputable def body4 : Code := ((loopsIn body3)[0]?).getD .skip

theorem upd_upd (come : Nat → Option (List Int × List Bool)) (i : Nat) (p q : List Int × List Bool) : upd (upd come i p) i q = upd come i q := by
  funext j
  unfold upd
  by_cases h : j = i
  · rw [if_pos h, if_pos h]
  · rw [if_neg h, if_neg h, if_neg h]

/-- What the innermost loop leaves: of what was seen at i what is there now, too. -/
structure L4 (Bq n len SB i C : Nat) (come : Nat → Option (List Int × List Bool)) (X : Option Nat) (st : List Int) (tf kf : Vf.Fl) (nv v : Value) (W0 : World) (x : Nat) (lb : Bool) (W : World) : Prop where
  le : x ≤ n
  se : SeAt Bq n len SB (upd come i (st, Vf.bm n tf kf x)) X W
  now : BR W C nv (Vf.bl n kf)
  lb : lb = Vf.less tf kf x
  grown : W0.grownBy W v.ownBlock
  cell : W.cell? ⟨SB, i * 3 + 2, none⟩ = some v
  own : nv.ownBlock = X
theorem L4.no {Bq n len SB i C : Nat} {come : Nat → Option (List Int × List Bool)} {X : Option Nat} {st : List Int} {tf kf : Vf.Fl} {nv v : Value} {W0 : World} {x : Nat} {lb : Bool} {W : World} (h : L4 Bq n len SB i C come X st tf kf nv v W0 x lb W) (hx : x < n) (hb : (tf.has x && !kf.has x) = false) : L4 Bq n len SB i C come X st tf kf nv v W0 (x + 1) lb W :=
  ⟨hx, by rw [Vf.bm_no hb]; exact h.se, h.now, by rw [h.lb, Vf.less, hb, Bool.or_false], h.grown, h.cell, h.own⟩
theorem L4.yes {Bq n len SB i C g cap : Nat} {come : Nat → Option (List Int × List Bool)} {X : Option Nat} {st : List Int} {tf kf : Vf.Fl} {nv : Value} {W0 : World} {x : Nat} {lb : Bool} {W : World} (h : L4 Bq n len SB i C come X st tf kf nv (.slice (some ⟨g, 0, none⟩) n cap) W0 x lb W) (hi : i < len) (hx : x < n) (hb : (tf.has x && !kf.has x) = true) (hX : some g ≠ X) : L4 Bq n len SB i C come X st tf kf nv (.slice (some ⟨g, 0, none⟩) n cap) W0 (x + 1) true (W.setCell ⟨g, x, none⟩ (.bool false)) := by
  obtain ⟨cs, hS⟩ := h.se.blk
  obtain ⟨s, v', c0, c1, c2, _, hbr, hbl, hsep⟩ := h.se.yes hi (if_pos rfl)
  have hv : v' = _ := Option.some.inj (c2.symm.trans h.cell)
  subst hv
  obtain ⟨_, bs, hb'⟩ := br_ty hbr (g := g) rfl
  have hgS : SB ≠ g := fun e => by
    subst e
    rw [hS] at hb'
    simp at hb'
  refine ⟨hx, ?_, br_keep h.now (fun g' cs' hg' _ => Below.heap_setCell _ ⟨g, x, none⟩ _ _ (fun e => hX ?_)), by rw [Vf.less, hb, Bool.or_true], grown_tr h.grown (grown_set (grown_refl W g) x _), (cell_eq (Below.heap_setCell _ ⟨g, x, none⟩ _ _ hgS) _).trans h.cell, h.own⟩
  · have h1 := h.se.clear (x := x) hi (if_pos rfl) h.cell
    rw [upd_upd, ← Vf.bm_yes hb] at h1
    exact h1
  · have e' : g' = g := e
    rw [← h.own, hg', e']

set_option maxRecDepth 1000000 in
set_option maxHeartbeats 4000000 in
theorem round4 (t0 t1 t2 t3 t4 t5 t6 t7 t8 t9 t10 t11 t13 t14 t15 t16 t17 t18 t19 t20 t21 t22 t23 t24 t27 t28 t29 t30 t31 t32 t33 t34 t35 t36 t37 t38 t39 t40 t41 t42 t43 t44 t45 t46 t47 t48 t49 t50 t51 t52 t53 t54 t55 t56 t57 t58 t59 t60 t61 t62 t63 t64 t65 t66 t67 t68 t69 t70 t71 t72 t73 t74 t75 t76 t77 t78 t79 t80 t81 t82 t83 t84 t85 t86 t87 t88 t89 t90 t91 t92 t93 t94 t95 t96 t97 t98 t99 t100 t101 t102 t103 t104 t105 t106 t107 t108 t109 t110 t111 t112 t113 t114 t115 t116 t117 t118 t119 t120 t121 t122 t123 t124 t125 t126 t127 t128 t129 t130 t131 t132 t133 t134 t135 t136 t137 t138 t139 t140 t141 t142 t143 t144 t145 t146 t147 t148 t149 t150 t151 t152 t153 t154 t155 t156 t157 t158 t159 t160 t161 t162 t163 t164 t165 t166 t167 t168 t169 t170 t171 t172 t173 t174 t175 t176 t177 t178 t179 t180 t181 t182 t183 t184 t185 t186 t187 t188 t189 t190 t191 t192 t193 t194 t195 t196 t197 t198 t199 t200 t201 t202 t203 t204 t205 t206 t207 t208 t209 t210 t211 t212 t213 t214 t215 t216 t217 t218 t219 t220 t221 t222 t223 t224 t225 t226 t227 t228 t229 t230 t231 t232 t233 t234 t235 t236 t237 t238 t239 t240 t241 t242 t243 t244 t245 t246 t247 t248 t249 t250 t251 t252 t253 t254 t255 t256 t257 t258 t259 t260 t261 t262 t263 t264 t265 t266 t267 t268 t269 t270 t271 t272 t273 t274 t275 t278 t279 t280 t281 t282 t283 t284 t285 t286 t287 t288 t289 t290 t291 t292 t293 t294 t295 t296 t297 t298 t299 t300 t301 t302 t303 t304 t305 t306 t307 : Value) (Bq n len SB i C : Nat) (come : Nat → Option (List Int × List Bool)) (X : Option Nat) (st : List Int) (tf kf : Vf.Fl) (nv v : Value) (W0 : World) (hi : i < len) (hn : n ≤ 200) (x : Nat) (lb : Bool) (w : World) (hL : Hid (L4 Bq n len SB i C come X st tf kf nv v W0 x lb w)) (K : Act → World → Prop) (Q : Exit → Act → World → Prop)
    (hK : ∀ (u27 u278 u279 u280 u281 u282 u283 u284 u285 u286 u287 u288 u289 u290 u291 u292 u293 u294 u295 u296 u297 u298 u299 u300 : Value) (lb : Bool) (w' : World), L4 Bq n len SB i C come X st tf kf nv v W0 (x + 1) lb w' → x < n → K ⟨#[t0, t1, t2, t3, t4, t5, t6, t7, t8, t9, t10, t11, nv, t13, t14, t15, t16, t17, t18, t19, t20, t21, t22, t23, t24, .pointer (some ⟨SB, i * 3, none⟩), .bool lb, u27, t28, t29, t30, t31, t32, t33, t34, t35, t36, t37, t38, t39, t40, t41, t42, t43, t44, t45, t46, t47, t48, t49, t50, t51, t52, t53, t54, t55, t56, t57, t58, t59, t60, t61, t62, t63, t64, t65, t66, t67, t68, t69, t70, t71, t72, t73, t74, t75, t76, t77, t78, t79, t80, t81, t82, t83, t84, t85, t86, t87, t88, t89, t90, t91, t92, t93, t94, t95, t96, t97, t98, t99, t100, t101, t102, t103, t104, t105, t106, t107, t108, t109, t110, t111, t112, t113, t114, t115, t116, t117, t118, t119, t120, t121, t122, t123, t124, t125, t126, t127, t128, t129, t130, t131, t132, t133, t134, t135, t136, t137, t138, t139, t140, t141, t142, t143, t144, t145, t146, t147, t148, t149, t150, t151, t152, t153, t154, t155, t156, t157, t158, t159, t160, t161, t162, t163, t164, t165, t166, t167, t168, t169, t170, t171, t172, t173, t174, t175, t176, t177, t178, t179, t180, t181, t182, t183, t184, t185, t186, t187, t188, t189, t190, t191, t192, t193, t194, t195, t196, t197, t198, t199, t200, t201, t202, t203, t204, t205, t206, t207, t208, t209, t210, t211, t212, t213, t214, t215, t216, t217, t218, t219, t220, t221, t222, t223, t224, t225, t226, t227, t228, t229, t230, t231, t232, t233, t234, t235, t236, t237, t238, t239, t240, t241, t242, t243, t244, t245, t246, t247, t248, t249, t250, t251, t252, t253, t254, t255, t256, t257, t258, t259, t260, t261, t262, t263, t264, t265, t266, t267, t268, t269, t270, t271, t272, t273, t274, t275, .int .i64 (n : Int), .int .i64 ((x + 1 : Nat) : Int), u278, u279, u280, u281, u282, u283, u284, u285, u286, u287, u288, u289, u290, u291, u292, u293, u294, u295, u296, u297, u298, u299, u300, t301, t302, t303, t304, t305, t306, t307], []⟩ w')
    (hE : ∀ (u27 u277 u278 u279 u280 u281 u282 u283 u284 u285 u286 u287 u288 u289 u290 u291 u292 u293 u294 u295 u296 u297 u298 u299 u300 : Value) (lb : Bool) (w' : World), L4 Bq n len SB i C come X st tf kf nv v W0 n lb w' → Q (.exit 7) ⟨#[t0, t1, t2, t3, t4, t5, t6, t7, t8, t9, t10, t11, nv, t13, t14, t15, t16, t17, t18, t19, t20, t21, t22, t23, t24, .pointer (some ⟨SB, i * 3, none⟩), .bool lb, u27, t28, t29, t30, t31, t32, t33, t34, t35, t36, t37, t38, t39, t40, t41, t42, t43, t44, t45, t46, t47, t48, t49, t50, t51, t52, t53, t54, t55, t56, t57, t58, t59, t60, t61, t62, t63, t64, t65, t66, t67, t68, t69, t70, t71, t72, t73, t74, t75, t76, t77, t78, t79, t80, t81, t82, t83, t84, t85, t86, t87, t88, t89, t90, t91, t92, t93, t94, t95, t96, t97, t98, t99, t100, t101, t102, t103, t104, t105, t106, t107, t108, t109, t110, t111, t112, t113, t114, t115, t116, t117, t118, t119, t120, t121, t122, t123, t124, t125, t126, t127, t128, t129, t130, t131, t132, t133, t134, t135, t136, t137, t138, t139, t140, t141, t142, t143, t144, t145, t146, t147, t148, t149, t150, t151, t152, t153, t154, t155, t156, t157, t158, t159, t160, t161, t162, t163, t164, t165, t166, t167, t168, t169, t170, t171, t172, t173, t174, t175, t176, t177, t178, t179, t180, t181, t182, t183, t184, t185, t186, t187, t188, t189, t190, t191, t192, t193, t194, t195, t196, t197, t198, t199, t200, t201, t202, t203, t204, t205, t206, t207, t208, t209, t210, t211, t212, t213, t214, t215, t216, t217, t218, t219, t220, t221, t222, t223, t224, t225, t226, t227, t228, t229, t230, t231, t232, t233, t234, t235, t236, t237, t238, t239, t240, t241, t242, t243, t244, t245, t246, t247, t248, t249, t250, t251, t252, t253, t254, t255, t256, t257, t258, t259, t260, t261, t262, t263, t264, t265, t266, t267, t268, t269, t270, t271, t272, t273, t274, t275, .int .i64 (n : Int), u277, u278, u279, u280, u281, u282, u283, u284, u285, u286, u287, u288, u289, u290, u291, u292, u293, u294, u295, u296, u297, u298, u299, u300, t301, t302, t303, t304, t305, t306, t307], []⟩ w') :
    Code.wp Try.prog body4 (Exit.then K Q) ⟨#[t0, t1, t2, t3, t4, t5, t6, t7, t8, t9, t10, t11, nv, t13, t14, t15, t16, t17, t18, t19, t20, t21, t22, t23, t24, .pointer (some ⟨SB, i * 3, none⟩), .bool lb, t27, t28, t29, t30, t31, t32, t33, t34, t35, t36, t37, t38, t39, t40, t41, t42, t43, t44, t45, t46, t47, t48, t49, t50, t51, t52, t53, t54, t55, t56, t57, t58, t59, t60, t61, t62, t63, t64, t65, t66, t67, t68, t69, t70, t71, t72, t73, t74, t75, t76, t77, t78, t79, t80, t81, t82, t83, t84, t85, t86, t87, t88, t89, t90, t91, t92, t93, t94, t95, t96, t97, t98, t99, t100, t101, t102, t103, t104, t105, t106, t107, t108, t109, t110, t111, t112, t113, t114, t115, t116, t117, t118, t119, t120, t121, t122, t123, t124, t125, t126, t127, t128, t129, t130, t131, t132, t133, t134, t135, t136, t137, t138, t139, t140, t141, t142, t143, t144, t145, t146, t147, t148, t149, t150, t151, t152, t153, t154, t155, t156, t157, t158, t159, t160, t161, t162, t163, t164, t165, t166, t167, t168, t169, t170, t171, t172, t173, t174, t175, t176, t177, t178, t179, t180, t181, t182, t183, t184, t185, t186, t187, t188, t189, t190, t191, t192, t193, t194, t195, t196, t197, t198, t199, t200, t201, t202, t203, t204, t205, t206, t207, t208, t209, t210, t211, t212, t213, t214, t215, t216, t217, t218, t219, t220, t221, t222, t223, t224, t225, t226, t227, t228, t229, t230, t231, t232, t233, t234, t235, t236, t237, t238, t239, t240, t241, t242, t243, t244, t245, t246, t247, t248, t249, t250, t251, t252, t253, t254, t255, t256, t257, t258, t259, t260, t261, t262, t263, t264, t265, t266, t267, t268, t269, t270, t271, t272, t273, t274, t275, .int .i64 (n : Int), .int .i64 (x : Int), t278, t279, t280, t281, t282, t283, t284, t285, t286, t287, t288, t289, t290, t291, t292, t293, t294, t295, t296, t297, t298, t299, t300, t301, t302, t303, t304, t305, t306, t307], []⟩ w := by
  have HK := hide hK
  have HE := hide hE
  clear hK hE
  conv => arg 2; whnf
  have hle := hL.out.le
  by_cases hx : x < n
  · obtain ⟨s, v', c0, c1, c2, _, hbr, hbl, hsep⟩ := hL.out.se.yes hi (if_pos rfl)
    have hv : v' = v := by have := c2.symm.trans hL.out.cell; exact Option.some.inj this
    subst hv
    obtain ⟨g, cap, hvv, hg1, hg2, c3, f3⟩ := br_cell hbr (Vf.bm_at tf kf x hx)
    obtain ⟨g', cap', e', hg1', hg2', c4, f4⟩ := br_cell hL.out.now (Vf.bl_at kf hx)
    rw [hbl] at hvv
    have hxi : (x : Int) < (n : Int) := by omega
    have e1 : (tf.has x && (decide (x ≤ x) || kf.has x)) = tf.has x := by simp
    rw [e1] at c3
    rw [Vf.bl_len] at e'
    subst hvv e'
    have HSP : Hid (some g ≠ X) := hsep g rfl
    have hsl := hL.out.se.lt
    obtain ⟨a, ha⟩ : ∃ a, a = tf.has x := ⟨_, rfl⟩
    obtain ⟨b, hb⟩ : ∃ b, b = kf.has x := ⟨_, rfl⟩
    rw [← ha] at c3
    rw [← hb] at c4
    have HA := hide ha
    have HB := hide hb
    clear ha hb hbr hbl hsep e1
    cases a with
    | false =>
      have HN : Hid ((tf.has x && !kf.has x) = false) := by unfold Hid; rw [← HA.out]; rfl
      go_wp2
      exact HK.out _ _ _ _ _ _ _ _ _ _ _ _ _ _ _ _ _ _ _ _ _ _ _ _ _ _ (hL.out.no hx HN.out) hx
    | true =>
      cases b with
      | true =>
        have HN : Hid ((tf.has x && !kf.has x) = false) := by unfold Hid; rw [← HA.out, ← HB.out]; rfl
        go_wp2
        exact HK.out _ _ _ _ _ _ _ _ _ _ _ _ _ _ _ _ _ _ _ _ _ _ _ _ _ _ (hL.out.no hx HN.out) hx
      | false =>
        have HN : Hid ((tf.has x && !kf.has x) = true) := by unfold Hid; rw [← HA.out, ← HB.out]; rfl
        go_wp2
        exact HK.out _ _ _ _ _ _ _ _ _ _ _ _ _ _ _ _ _ _ _ _ _ _ _ _ _ _ (hL.out.yes hi hx HN.out HSP.out) hx
  · have hx2 : x = n := by omega
    subst hx2
    go_wp2
    exact HE.out _ _ _ _ _ _ _ _ _ _ _ _ _ _ _ _ _ _ _ _ _ _ _ _ _ _ _ hL.out

set_option maxRecDepth 1000000 in
theorem loop4 (Bq n len SB i C : Nat) (come : Nat → Option (List Int × List Bool)) (X : Option Nat) (st : List Int) (tf kf : Vf.Fl) (nv v : Value) (W0 : World) (hi : i < len) (hn : n ≤ 200) (Q : Exit → Act → World → Prop) (t0 t1 t2 t3 t4 t5 t6 t7 t8 t9 t10 t11 t13 t14 t15 t16 t17 t18 t19 t20 t21 t22 t23 t24 t28 t29 t30 t31 t32 t33 t34 t35 t36 t37 t38 t39 t40 t41 t42 t43 t44 t45 t46 t47 t48 t49 t50 t51 t52 t53 t54 t55 t56 t57 t58 t59 t60 t61 t62 t63 t64 t65 t66 t67 t68 t69 t70 t71 t72 t73 t74 t75 t76 t77 t78 t79 t80 t81 t82 t83 t84 t85 t86 t87 t88 t89 t90 t91 t92 t93 t94 t95 t96 t97 t98 t99 t100 t101 t102 t103 t104 t105 t106 t107 t108 t109 t110 t111 t112 t113 t114 t115 t116 t117 t118 t119 t120 t121 t122 t123 t124 t125 t126 t127 t128 t129 t130 t131 t132 t133 t134 t135 t136 t137 t138 t139 t140 t141 t142 t143 t144 t145 t146 t147 t148 t149 t150 t151 t152 t153 t154 t155 t156 t157 t158 t159 t160 t161 t162 t163 t164 t165 t166 t167 t168 t169 t170 t171 t172 t173 t174 t175 t176 t177 t178 t179 t180 t181 t182 t183 t184 t185 t186 t187 t188 t189 t190 t191 t192 t193 t194 t195 t196 t197 t198 t199 t200 t201 t202 t203 t204 t205 t206 t207 t208 t209 t210 t211 t212 t213 t214 t215 t216 t217 t218 t219 t220 t221 t222 t223 t224 t225 t226 t227 t228 t229 t230 t231 t232 t233 t234 t235 t236 t237 t238 t239 t240 t241 t242 t243 t244 t245 t246 t247 t248 t249 t250 t251 t252 t253 t254 t255 t256 t257 t258 t259 t260 t261 t262 t263 t264 t265 t266 t267 t268 t269 t270 t271 t272 t273 t274 t275 t301 t302 t303 t304 t305 t306 t307 : Value)
    (hE : ∀ (u27 u277 u278 u279 u280 u281 u282 u283 u284 u285 u286 u287 u288 u289 u290 u291 u292 u293 u294 u295 u296 u297 u298 u299 u300 : Value) (lb : Bool) (w' : World), L4 Bq n len SB i C come X st tf kf nv v W0 n lb w' → Q (.exit 7) ⟨#[t0, t1, t2, t3, t4, t5, t6, t7, t8, t9, t10, t11, nv, t13, t14, t15, t16, t17, t18, t19, t20, t21, t22, t23, t24, .pointer (some ⟨SB, i * 3, none⟩), .bool lb, u27, t28, t29, t30, t31, t32, t33, t34, t35, t36, t37, t38, t39, t40, t41, t42, t43, t44, t45, t46, t47, t48, t49, t50, t51, t52, t53, t54, t55, t56, t57, t58, t59, t60, t61, t62, t63, t64, t65, t66, t67, t68, t69, t70, t71, t72, t73, t74, t75, t76, t77, t78, t79, t80, t81, t82, t83, t84, t85, t86, t87, t88, t89, t90, t91, t92, t93, t94, t95, t96, t97, t98, t99, t100, t101, t102, t103, t104, t105, t106, t107, t108, t109, t110, t111, t112, t113, t114, t115, t116, t117, t118, t119, t120, t121, t122, t123, t124, t125, t126, t127, t128, t129, t130, t131, t132, t133, t134, t135, t136, t137, t138, t139, t140, t141, t142, t143, t144, t145, t146, t147, t148, t149, t150, t151, t152, t153, t154, t155, t156, t157, t158, t159, t160, t161, t162, t163, t164, t165, t166, t167, t168, t169, t170, t171, t172, t173, t174, t175, t176, t177, t178, t179, t180, t181, t182, t183, t184, t185, t186, t187, t188, t189, t190, t191, t192, t193, t194, t195, t196, t197, t198, t199, t200, t201, t202, t203, t204, t205, t206, t207, t208, t209, t210, t211, t212, t213, t214, t215, t216, t217, t218, t219, t220, t221, t222, t223, t224, t225, t226, t227, t228, t229, t230, t231, t232, t233, t234, t235, t236, t237, t238, t239, t240, t241, t242, t243, t244, t245, t246, t247, t248, t249, t250, t251, t252, t253, t254, t255, t256, t257, t258, t259, t260, t261, t262, t263, t264, t265, t266, t267, t268, t269, t270, t271, t272, t273, t274, t275, .int .i64 (n : Int), u277, u278, u279, u280, u281, u282, u283, u284, u285, u286, u287, u288, u289, u290, u291, u292, u293, u294, u295, u296, u297, u298, u299, u300, t301, t302, t303, t304, t305, t306, t307], []⟩ w') :
    ∀ (f : Nat) (t27 t278 t279 t280 t281 t282 t283 t284 t285 t286 t287 t288 t289 t290 t291 t292 t293 t294 t295 t296 t297 t298 t299 t300 : Value) (x : Nat) (lb : Bool) (w : World), n - x < f → L4 Bq n len SB i C come X st tf kf nv v W0 x lb w → Code.rounds Try.prog body4 Q f ⟨#[t0, t1, t2, t3, t4, t5, t6, t7, t8, t9, t10, t11, nv, t13, t14, t15, t16, t17, t18, t19, t20, t21, t22, t23, t24, .pointer (some ⟨SB, i * 3, none⟩), .bool lb, t27, t28, t29, t30, t31, t32, t33, t34, t35, t36, t37, t38, t39, t40, t41, t42, t43, t44, t45, t46, t47, t48, t49, t50, t51, t52, t53, t54, t55, t56, t57, t58, t59, t60, t61, t62, t63, t64, t65, t66, t67, t68, t69, t70, t71, t72, t73, t74, t75, t76, t77, t78, t79, t80, t81, t82, t83, t84, t85, t86, t87, t88, t89, t90, t91, t92, t93, t94, t95, t96, t97, t98, t99, t100, t101, t102, t103, t104, t105, t106, t107, t108, t109, t110, t111, t112, t113, t114, t115, t116, t117, t118, t119, t120, t121, t122, t123, t124, t125, t126, t127, t128, t129, t130, t131, t132, t133, t134, t135, t136, t137, t138, t139, t140, t141, t142, t143, t144, t145, t146, t147, t148, t149, t150, t151, t152, t153, t154, t155, t156, t157, t158, t159, t160, t161, t162, t163, t164, t165, t166, t167, t168, t169, t170, t171, t172, t173, t174, t175, t176, t177, t178, t179, t180, t181, t182, t183, t184, t185, t186, t187, t188, t189, t190, t191, t192, t193, t194, t195, t196, t197, t198, t199, t200, t201, t202, t203, t204, t205, t206, t207, t208, t209, t210, t211, t212, t213, t214, t215, t216, t217, t218, t219, t220, t221, t222, t223, t224, t225, t226, t227, t228, t229, t230, t231, t232, t233, t234, t235, t236, t237, t238, t239, t240, t241, t242, t243, t244, t245, t246, t247, t248, t249, t250, t251, t252, t253, t254, t255, t256, t257, t258, t259, t260, t261, t262, t263, t264, t265, t266, t267, t268, t269, t270, t271, t272, t273, t274, t275, .int .i64 (n : Int), .int .i64 (x : Int), t278, t279, t280, t281, t282, t283, t284, t285, t286, t287, t288, t289, t290, t291, t292, t293, t294, t295, t296, t297, t298, t299, t300, t301, t302, t303, t304, t305, t306, t307], []⟩ w
  | 0, t27, t278, t279, t280, t281, t282, t283, t284, t285, t286, t287, t288, t289, t290, t291, t292, t293, t294, t295, t296, t297, t298, t299, t300, _, _, _, h, _ => absurd h (Nat.not_lt_zero _)
  | f + 1, t27, t278, t279, t280, t281, t282, t283, t284, t285, t286, t287, t288, t289, t290, t291, t292, t293, t294, t295, t296, t297, t298, t299, t300, x, lb, w, h, hL => round4 t0 t1 t2 t3 t4 t5 t6 t7 t8 t9 t10 t11 t13 t14 t15 t16 t17 t18 t19 t20 t21 t22 t23 t24 t27 t28 t29 t30 t31 t32 t33 t34 t35 t36 t37 t38 t39 t40 t41 t42 t43 t44 t45 t46 t47 t48 t49 t50 t51 t52 t53 t54 t55 t56 t57 t58 t59 t60 t61 t62 t63 t64 t65 t66 t67 t68 t69 t70 t71 t72 t73 t74 t75 t76 t77 t78 t79 t80 t81 t82 t83 t84 t85 t86 t87 t88 t89 t90 t91 t92 t93 t94 t95 t96 t97 t98 t99 t100 t101 t102 t103 t104 t105 t106 t107 t108 t109 t110 t111 t112 t113 t114 t115 t116 t117 t118 t119 t120 t121 t122 t123 t124 t125 t126 t127 t128 t129 t130 t131 t132 t133 t134 t135 t136 t137 t138 t139 t140 t141 t142 t143 t144 t145 t146 t147 t148 t149 t150 t151 t152 t153 t154 t155 t156 t157 t158 t159 t160 t161 t162 t163 t164 t165 t166 t167 t168 t169 t170 t171 t172 t173 t174 t175 t176 t177 t178 t179 t180 t181 t182 t183 t184 t185 t186 t187 t188 t189 t190 t191 t192 t193 t194 t195 t196 t197 t198 t199 t200 t201 t202 t203 t204 t205 t206 t207 t208 t209 t210 t211 t212 t213 t214 t215 t216 t217 t218 t219 t220 t221 t222 t223 t224 t225 t226 t227 t228 t229 t230 t231 t232 t233 t234 t235 t236 t237 t238 t239 t240 t241 t242 t243 t244 t245 t246 t247 t248 t249 t250 t251 t252 t253 t254 t255 t256 t257 t258 t259 t260 t261 t262 t263 t264 t265 t266 t267 t268 t269 t270 t271 t272 t273 t274 t275 t278 t279 t280 t281 t282 t283 t284 t285 t286 t287 t288 t289 t290 t291 t292 t293 t294 t295 t296 t297 t298 t299 t300 t301 t302 t303 t304 t305 t306 t307 Bq n len SB i C come X st tf kf nv v W0 hi hn x lb w hL _ Q (fun u27 u278 u279 u280 u281 u282 u283 u284 u285 u286 u287 u288 u289 u290 u291 u292 u293 u294 u295 u296 u297 u298 u299 u300 lb w' hL' hx => loop4 Bq n len SB i C come X st tf kf nv v W0 hi hn Q t0 t1 t2 t3 t4 t5 t6 t7 t8 t9 t10 t11 t13 t14 t15 t16 t17 t18 t19 t20 t21 t22 t23 t24 t28 t29 t30 t31 t32 t33 t34 t35 t36 t37 t38 t39 t40 t41 t42 t43 t44 t45 t46 t47 t48 t49 t50 t51 t52 t53 t54 t55 t56 t57 t58 t59 t60 t61 t62 t63 t64 t65 t66 t67 t68 t69 t70 t71 t72 t73 t74 t75 t76 t77 t78 t79 t80 t81 t82 t83 t84 t85 t86 t87 t88 t89 t90 t91 t92 t93 t94 t95 t96 t97 t98 t99 t100 t101 t102 t103 t104 t105 t106 t107 t108 t109 t110 t111 t112 t113 t114 t115 t116 t117 t118 t119 t120 t121 t122 t123 t124 t125 t126 t127 t128 t129 t130 t131 t132 t133 t134 t135 t136 t137 t138 t139 t140 t141 t142 t143 t144 t145 t146 t147 t148 t149 t150 t151 t152 t153 t154 t155 t156 t157 t158 t159 t160 t161 t162 t163 t164 t165 t166 t167 t168 t169 t170 t171 t172 t173 t174 t175 t176 t177 t178 t179 t180 t181 t182 t183 t184 t185 t186 t187 t188 t189 t190 t191 t192 t193 t194 t195 t196 t197 t198 t199 t200 t201 t202 t203 t204 t205 t206 t207 t208 t209 t210 t211 t212 t213 t214 t215 t216 t217 t218 t219 t220 t221 t222 t223 t224 t225 t226 t227 t228 t229 t230 t231 t232 t233 t234 t235 t236 t237 t238 t239 t240 t241 t242 t243 t244 t245 t246 t247 t248 t249 t250 t251 t252 t253 t254 t255 t256 t257 t258 t259 t260 t261 t262 t263 t264 t265 t266 t267 t268 t269 t270 t271 t272 t273 t274 t275 t301 t302 t303 t304 t305 t306 t307 hE f u27 u278 u279 u280 u281 u282 u283 u284 u285 u286 u287 u288 u289 u290 u291 u292 u293 u294 u295 u296 u297 u298 u299 u300 (x + 1) lb w' (by omega) hL') hE
end Go.Proofs.Ytbkimpimoclobaa

/- The document's answer, chapter 7: what holds in the loop over what comes next. -/
namespace Go.Proofs.Ytbkimpimoclobaa
open Go.RowKit

abbrev ints64 (l : List Int) : List Value := l.map (fun x => Value.int .i64 x)
structure L3 (c : FC) (kk AT NB C nn : Nat) (nv : Value) (gs : List Int) (k : Vf.Kn) (w : World) (s : Vf.S) (rv : Value) (j : Nat) (W : World) : Prop where
  cd : CdAt c kk w W
  se : SeAt (w.heap.size + 1 + 1 + 1 + 1) c.u.locals.length c.u.code.length (w.heap.size + 1 + 1 + 1 + 1) (Vf.cm c.u.locals.length s.come) nv.ownBlock W
  now : BR W C nv (Vf.bl c.u.locals.length k.fl)
  q : QR W (w.heap.size + 1 + 1 + 1 + 1) rv s.row
  qa : rv.ownBlock ≠ some AT
  qn : rv.ownBlock ≠ some NB
  ab : W.heap[AT]? = some (kO nn)
  nb : gs ≠ [] → W.heap[NB]? = some (.cells (List.toArray (ints64 gs)) 3 (0, 0))
  ha : w.heap.size + 1 + 1 + 1 + 1 ≤ AT
  inv : Inv c.m c.u s
  flg : Vf.Flg c.u.locals.length s
  few : s.row.length ≤ 90000000 + j
  le : j ≤ gs.length
theorem L3.nlt {c : FC} {kk AT NB C nn : Nat} {nv : Value} {gs : List Int} {k : Vf.Kn} {w : World} {s : Vf.S} {rv : Value} {j : Nat} {W : World} (h : L3 c kk AT NB C nn nv gs k w s rv j W) : ∀ g, nv.ownBlock = some g → g < W.heap.size := fun g hg => by
  obtain ⟨_, cs, hb⟩ := br_ty h.now hg
  exact lt_of_block hb
/-- A copy of what is now. -/
theorem L3.copy {c : FC} {kk AT NB C nn : Nat} {nv : Value} {gs : List Int} {k : Vf.Kn} {w : World} {s : Vf.S} {rv : Value} {j : Nat} {W W2 : World} (h : L3 c kk AT NB C nn nv gs k w s rv j W) (hg : W.grownBy W2 none) : L3 c kk AT NB C nn nv gs k w s rv j W2 :=
  ⟨h.cd.next hg, h.se.grown hg, br_grown h.now hg, h.q.keep (fun b hb => kept0 hg (h.q.lt b hb).2), h.qa, h.qn, (kept0 hg (lt_of_block h.ab)).trans h.ab, fun hn => (kept0 hg (lt_of_block (h.nb hn))).trans (h.nb hn), h.ha, h.inv, h.flg, h.few, h.le⟩
theorem qr_int {w : World} {B N : Nat} {v : Value} {ws : List Nat} (h : QR w B v ws) (hN : v.ownBlock = some N) : ∃ cs, w.heap[N]? = some (Obj.cells cs 3 (0, 0)) := by
  rcases h with ⟨rfl, _⟩ | ⟨g, off, cap, cs, rfl, hB, hh, r⟩
  · cases hN
  · cases hN
    exact ⟨_, hh⟩
theorem SeAt.row {B n len SB B' : Nat} {come : Nat → Option (List Int × List Bool)} {X : Option Nat} {w w' : World} {v : Value} {ws : List Nat} (h : SeAt B n len SB come X w) (hq : QR w B' v ws) (hg : w.grownBy w' v.ownBlock) : SeAt B n len SB come X w' := by
  cases hv : v.ownBlock with
  | none => rw [hv] at hg; exact h.grown hg
  | some N =>
    rw [hv] at hg
    obtain ⟨cs, hb⟩ := qr_int hq hv
    exact h.other hg hb (fun _ e => by cases e) (fun _ e => by cases e)
theorem br_row {C B' : Nat} {w w' : World} {v nv : Value} {l : List Bool} {ws : List Nat} (h : BR w C nv l) (hq : QR w B' v ws) (hg : w.grownBy w' v.ownBlock) : BR w' C nv l :=
  br_keep h (fun g cs _ hc => hg.block g (lt_of_block hc) (fun e => by
    obtain ⟨cs', hb⟩ := qr_int hq e.symm
    rw [hc] at hb
    cases hb))
/-- ONE MORE IS TO BE LOOKED AT. -/
theorem L3.row {c : FC} {kk AT NB C nn tn : Nat} {nv v' : Value} {gs : List Int} {k kn : Vf.Kn} {w : World} {s : Vf.S} {rv : Value} {j : Nat} {W W3 w5 : World} {o : Obj} (h : L3 c kk AT NB C nn nv gs k w s rv j W) (hcd : CdAt c kk w W3)
    (hse : SeAt (w.heap.size + 1 + 1 + 1 + 1) c.u.locals.length c.u.code.length (w.heap.size + 1 + 1 + 1 + 1) (Vf.cm c.u.locals.length (s.note tn kn).come) nv.ownBlock W3) (hnow : BR W3 C nv (Vf.bl c.u.locals.length k.fl))
    (hint : ∀ (b : Nat) cs, W.heap[b]? = some (Obj.cells cs 3 (0, 0)) → W3.heap[b]? = W.heap[b]?) (hq : QR w5 (w.heap.size + 1 + 1 + 1 + 1) v' (s.row ++ [tn])) (hg : (W3.alloc o).grownBy w5 rv.ownBlock) (hj : ∀ b, v'.ownBlock = some b → rv.ownBlock = some b ∨ (W3.alloc o).heap.size ≤ b)
    (hinv : Inv c.m c.u (s.note tn kn)) (hflg : Vf.Flg c.u.locals.length (s.note tn kn)) (hjl : j < gs.length) : L3 c kk AT NB C nn nv gs k w (s.note tn kn) v' (j + 1) w5 := by
  have hq3 : QR W3 (w.heap.size + 1 + 1 + 1 + 1) rv s.row := h.q.keep (fun b hb => by
    obtain ⟨cs, hb'⟩ := qr_int h.q hb
    exact hint b cs hb')
  have hq4 : QR (W3.alloc o) (w.heap.size + 1 + 1 + 1 + 1) rv s.row := hq3.alloc o
  have hat3 : W3.heap[AT]? = some (kO nn) := (hint AT _ h.ab).trans h.ab
  have hat4 : (W3.alloc o).heap[AT]? = some (kO nn) := (Below.heap_alloc _ _ _ (lt_of_block hat3)).trans hat3
  have hnb4 : gs ≠ [] → (W3.alloc o).heap[NB]? = some (.cells (List.toArray (ints64 gs)) 3 (0, 0)) := fun hn => by
    have h3 := (hint NB _ (h.nb hn)).trans (h.nb hn)
    exact (Below.heap_alloc _ _ _ (lt_of_block h3)).trans h3
  refine ⟨(hcd.new o).keep hg (fun N e => (hq4.lt N e).1), (hse.grown (grown0_new (World.grownBy.refl _ _) _)).row hq4 hg, br_row (br_grown hnow (grown0_new (World.grownBy.refl _ _) _)) hq4 hg, hq, fun e => ?_, fun e => ?_, (hg.block AT (lt_of_block hat4) (fun e => h.qa e.symm)).trans hat4, fun hn => (hg.block NB (lt_of_block (hnb4 hn)) (fun e => h.qn e.symm)).trans (hnb4 hn), h.ha, hinv, hflg, ?_, hjl⟩
  · rcases hj AT e with h1 | h1
    · exact h.qa h1
    · have := lt_of_block hat4
      omega
  · rcases hj NB e with h1 | h1
    · exact h.qn h1
    · have := lt_of_block (hnb4 (fun e => by rw [e] at hjl; cases hjl))
      omega
  · have := h.few
    show (s.row ++ [tn]).length ≤ _
    simp
    omega
/-- What the innermost loop leaves. -/
theorem L3.l4 {c : FC} {kk AT NB C nn tn : Nat} {nv v : Value} {gs : List Int} {k t : Vf.Kn} {w : World} {s : Vf.S} {rv : Value} {j : Nat} {lb : Bool} {W W' : World} (h : L3 c kk AT NB C nn nv gs k w s rv j W) (hl : L4 (w.heap.size + 1 + 1 + 1 + 1) c.u.locals.length c.u.code.length (w.heap.size + 1 + 1 + 1 + 1) tn C (Vf.cm c.u.locals.length s.come) nv.ownBlock t.st t.fl k.fl nv v W c.u.locals.length lb W')
    (hv : BR W (w.heap.size + 1 + 1 + 1 + 1) v (Vf.bl c.u.locals.length t.fl)) :
    CdAt c kk w W' ∧ SeAt (w.heap.size + 1 + 1 + 1 + 1) c.u.locals.length c.u.code.length (w.heap.size + 1 + 1 + 1 + 1) (Vf.cm c.u.locals.length (s.note tn ⟨t.st, t.fl.both k.fl⟩).come) nv.ownBlock W' ∧ (∀ (b : Nat) cs, W.heap[b]? = some (Obj.cells cs 3 (0, 0)) → W'.heap[b]? = W.heap[b]?) := by
  refine ⟨h.cd.keep hl.grown (fun N e => (br_ty hv e).1), ?_, fun b cs hb => hl.grown.block b (lt_of_block hb) (fun e => ?_)⟩
  · rw [Vf.cm_note, ← Vf.bm_end]
    exact hl.se
  · obtain ⟨_, cs', hb'⟩ := br_ty hv e.symm
    rw [hb] at hb'
    cases hb'
/-- Nothing went. -/
theorem L3.same {c : FC} {kk AT NB C nn tn : Nat} {nv v : Value} {gs : List Int} {k t : Vf.Kn} {w : World} {s : Vf.S} {rv : Value} {j : Nat} {lb : Bool} {W W' : World} (h : L3 c kk AT NB C nn nv gs k w s rv j W) (hl : L4 (w.heap.size + 1 + 1 + 1 + 1) c.u.locals.length c.u.code.length (w.heap.size + 1 + 1 + 1 + 1) tn C (Vf.cm c.u.locals.length s.come) nv.ownBlock t.st t.fl k.fl nv v W c.u.locals.length lb W')
    (hv : BR W (w.heap.size + 1 + 1 + 1 + 1) v (Vf.bl c.u.locals.length t.fl)) (ht : s.come tn = some t) (he : t.fl.both k.fl = t.fl) (hjl : j < gs.length) : L3 c kk AT NB C nn nv gs k w s rv (j + 1) W' := by
  obtain ⟨h1, h2, h3⟩ := h.l4 hl hv
  have e : Vf.cm c.u.locals.length (s.note tn ⟨t.st, t.fl.both k.fl⟩).come = Vf.cm c.u.locals.length s.come := by
    funext i
    rw [Vf.cm_note]
    unfold upd
    by_cases hi : i = tn
    · rw [if_pos hi, hi, Vf.cm_some ht, he]
    · rw [if_neg hi]
  rw [e] at h2
  exact ⟨h1, h2, hl.now, h.q.keep (fun b hb => by
    obtain ⟨cs, hb'⟩ := qr_int h.q hb
    exact h3 b cs hb'), h.qa, h.qn, (h3 AT _ h.ab).trans h.ab, fun hn => (h3 NB _ (h.nb hn)).trans (h.nb hn), h.ha, h.inv, h.flg, by have := h.few; omega, hjl⟩
/-- Seen for the first time. -/
theorem L3.first {c : FC} {kk AT NB C nn tn : Nat} {nv v : Value} {gs : List Int} {k : Vf.Kn} {w : World} {s : Vf.S} {rv : Value} {j : Nat} {W w2 : World} {sb : ByteArray} (h : L3 c kk AT NB C nn nv gs k w s rv j W) (hz : tn < c.u.code.length) (hsb : sb.data.toList = (k.st.map Vf.ltr).reverse) (hg : W.grownBy w2 none) (hv : BR w2 W.heap.size v (Vf.bl c.u.locals.length k.fl)) :
    CdAt c kk w (((w2.setCell ⟨w.heap.size + 1 + 1 + 1 + 1, tn * 3, none⟩ (.bool true)).setCell ⟨w.heap.size + 1 + 1 + 1 + 1, tn * 3 + 1, none⟩ (.string sb)).setCell ⟨w.heap.size + 1 + 1 + 1 + 1, tn * 3 + 2, none⟩ v) ∧
    SeAt (w.heap.size + 1 + 1 + 1 + 1) c.u.locals.length c.u.code.length (w.heap.size + 1 + 1 + 1 + 1) (Vf.cm c.u.locals.length (s.note tn k).come) nv.ownBlock (((w2.setCell ⟨w.heap.size + 1 + 1 + 1 + 1, tn * 3, none⟩ (.bool true)).setCell ⟨w.heap.size + 1 + 1 + 1 + 1, tn * 3 + 1, none⟩ (.string sb)).setCell ⟨w.heap.size + 1 + 1 + 1 + 1, tn * 3 + 2, none⟩ v) ∧
    BR (((w2.setCell ⟨w.heap.size + 1 + 1 + 1 + 1, tn * 3, none⟩ (.bool true)).setCell ⟨w.heap.size + 1 + 1 + 1 + 1, tn * 3 + 1, none⟩ (.string sb)).setCell ⟨w.heap.size + 1 + 1 + 1 + 1, tn * 3 + 2, none⟩ v) C nv (Vf.bl c.u.locals.length k.fl) ∧
    (∀ (b : Nat) cs, W.heap[b]? = some (Obj.cells cs 3 (0, 0)) → (((w2.setCell ⟨w.heap.size + 1 + 1 + 1 + 1, tn * 3, none⟩ (.bool true)).setCell ⟨w.heap.size + 1 + 1 + 1 + 1, tn * 3 + 1, none⟩ (.string sb)).setCell ⟨w.heap.size + 1 + 1 + 1 + 1, tn * 3 + 2, none⟩ v).heap[b]? = W.heap[b]?) := by
  obtain ⟨cs0, hS⟩ := h.se.blk
  have hl := h.cd.lt
  refine ⟨(((h.cd.next hg).set (Nat.le_refl _) _ _).set (Nat.le_refl _) _ _).set (Nat.le_refl _) _ _, ?_, br_keep (br_grown h.now hg) (fun g cs _ hc => three_far _ _ _ (fun e => ?_)), fun b cs hb => (three_far _ _ _ (fun e => ?_)).trans (kept0 hg (lt_of_block hb))⟩
  · rw [Vf.cm_note]
    exact h.se.put hg h.nlt (by omega) hz hv (Vf.bl_len _ _) hsb
  · subst e
    rw [(kept0 hg (lt_of_block hS)).trans hS] at hc
    cases hc
  · subst e
    rw [hS] at hb
    cases hb
end Go.Proofs.Ytbkimpimoclobaa

