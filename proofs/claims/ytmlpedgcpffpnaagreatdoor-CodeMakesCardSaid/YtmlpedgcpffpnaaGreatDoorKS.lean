/-
  Promise J2: the region of the reference's CheckProgram that lays the next state, in whatever order its operations come up (written by ckr5gen.py).
-/
import Derived.Test.YtmlpedgcpffpnaaGreatDoorKR
import Derived.Deep.RegionHeld
set_option linter.unusedSimpArgs false
set_option linter.unusedVariables false
namespace Go.Proofs.YtmlpedgcpffpnaaGreatDoor
open Go.RowKit
def opsIn (k : Nat) : Code → Option (Array Oper)
 | .region id ops _ => if id = k then some ops else none
 | .seq a b => (opsIn k a).or (opsIn k b)
 | .cond _ a b => (opsIn k a).or (opsIn k b)
 | .block _ a => opsIn k a
 | .loop a => opsIn k a
 | _ => none
noncomputable def r35 : Array Oper := (Tryz.f9.body.bind (opsIn 35)).getD #[]
set_option maxRecDepth 100000 in
set_option maxHeartbeats 8000000 in
theorem reg35 {Q : Exit → Act → World → Prop} (hP : ∀ c (a : Act) d v w, Q (.panic c) (a.put d v) w → Q (.panic c) a w) (w4 : World) (ab n j aj cj L kj q : Nat) (mj tk ly md nd : Int) (hL40 : L ≤ 40) (hjn1 : (j : Int) < (n : Int) + 1) (hw1 : IntKind.i64.wrap (mj - tk) = md) (hw2 : IntKind.i64.wrap (md + ly) = nd)
 (HSW : Hid (∀ w', Below w4.heap.size w4 w' → w'.cell? ⟨ab, j * 2, none⟩ = some (.int .i64 mj) ∧ w'.cell? ⟨ab, j * 2 + 1, none⟩ = some (.slice (some ⟨aj, 0, none⟩) L cj)))
 (HKC : Hid (∀ w', Below w4.heap.size w4 w' → ∀ p, p < L → w'.cell? ⟨aj, p, none⟩ = some (.bool (kj.testBit p))))
 (HTKC : Hid (∀ W, Calls Tryz.prog 33 #[.int .i64 (q : Int)] W fun e w' => e = .returned (.int .i64 tk) ∧ Below W.heap.size W w'))
 (HLYC : Hid (∀ W, Calls Tryz.prog 34 #[.int .i64 (q : Int)] W fun e w' => e = .returned (.int .i64 ly) ∧ Below W.heap.size W w'))
 (v0 v1 v2 v3 v4 v5 v6 v7 v8 v9 v11 v12 v13 v15 v16 v18 v19 v20 v21 v22 v23 v24 v25 v26 v27 v28 v29 v30 v31 v32 v33 v34 v35 v36 v37 v38 v39 v40 v41 v42 v43 v44 v45 v46 v47 v48 v49 v50 v51 v52 v53 v54 v55 v56 v57 v58 v59 v60 v61 v62 v63 v64 v65 v66 v67 v68 v69 v70 v71 v72 v73 v74 v75 v76 v77 v78 v79 v80 v81 v82 v83 v84 v85 v86 v87 v88 v89 v90 v91 v92 v93 v94 v95 v96 v97 v98 v99 v100 v101 v102 v103 v104 v105 v106 v107 v108 v109 v110 v111 v112 v113 v114 v115 v116 v117 v118 v119 v120 v121 v122 v123 v124 v125 v126 v127 v128 v129 v130 v131 v132 v133 v134 v135 v136 v137 v138 v139 v140 v141 v142 v143 v144 v145 v146 v147 v148 v149 v150 v151 v152 v153 v154 v155 v156 v157 v158 v159 v160 v161 v162 v163 v164 v165 v166 v167 v168 v169 v170 v171 v172 v173 v174 v175 v176 v177 v178 v179 v180 v181 v182 v183 v184 v185 v186 v187 v188 v189 v190 v191 v192 v193 v194 v195 v196 v197 v198 v199 v200 v201 v202 v203 v204 v205 v206 v207 v208 v209 v210 v211 v212 v213 v214 v215 v216 v217 v218 v219 v220 v221 v222 v223 v224 v225 v226 v227 v228 v229 v230 v231 v232 v233 v234 v235 v236 v237 v238 v239 v240 v241 v242 v243 v244 v245 v246 v247 v248 v249 v250 v251 v252 v253 v254 v255 v256 v257 v258 v259 v260 v261 v262 : Value)
 (hQ : ∀ (g kb c : Nat) (wx : World) (u139 u140 u141 u142 u143 u144 u145 u146 u147 u148 u149 u150 u151 u152 u153 u154 u155 u156 u157 : Value), NxAt wx w4.heap.size g kb L c nd kj → Below w4.heap.size w4 wx → Q .normal { tmps := #[v0, v1, v2, v3, v4, v5, v6, v7, v8, v9, .slice (some ⟨ab, 0, none⟩) (n + 1) (n + 1), v11, v12, v13, .int .i64 (j : Int), v15, v16, .int .i64 (q : Int), .pointer (some ⟨g, 0, none⟩), v19, v20, v21, v22, v23, v24, v25, v26, v27, v28, v29, v30, v31, v32, v33, v34, v35, v36, v37, v38, v39, v40, v41, v42, v43, v44, v45, v46, v47, v48, v49, v50, v51, v52, v53, v54, v55, v56, v57, v58, v59, v60, v61, v62, v63, v64, v65, v66, v67, v68, v69, v70, v71, v72, v73, v74, v75, v76, v77, v78, v79, v80, v81, v82, v83, v84, v85, v86, v87, v88, v89, v90, v91, v92, v93, v94, v95, v96, v97, v98, v99, v100, v101, v102, v103, v104, v105, v106, v107, v108, v109, v110, v111, v112, v113, v114, v115, v116, v117, v118, v119, v120, v121, v122, v123, v124, v125, v126, v127, v128, v129, v130, v131, v132, v133, v134, v135, v136, v137, v138, u139, u140, u141, u142, u143, u144, u145, u146, u147, u148, u149, u150, u151, u152, u153, u154, u155, u156, u157, v158, v159, v160, v161, v162, v163, v164, v165, v166, v167, v168, v169, v170, v171, v172, v173, v174, v175, v176, v177, v178, v179, v180, v181, v182, v183, v184, v185, v186, v187, v188, v189, v190, v191, v192, v193, v194, v195, v196, v197, v198, v199, v200, v201, v202, v203, v204, v205, v206, v207, v208, v209, v210, v211, v212, v213, v214, v215, v216, v217, v218, v219, v220, v221, v222, v223, v224, v225, v226, v227, v228, v229, v230, v231, v232, v233, v234, v235, v236, v237, v238, v239, v240, v241, v242, v243, v244, v245, v246, v247, v248, v249, v250, v251, v252, v253, v254, v255, v256, v257, v258, v259, v260, v261, v262], defers := [] } wx) :
 (Code.region 35 r35 true).wp Tryz.prog Q { tmps := #[v0, v1, v2, v3, v4, v5, v6, v7, v8, v9, .slice (some ⟨ab, 0, none⟩) (n + 1) (n + 1), v11, v12, v13, .int .i64 (j : Int), v15, v16, .int .i64 (q : Int), v18, v19, v20, v21, v22, v23, v24, v25, v26, v27, v28, v29, v30, v31, v32, v33, v34, v35, v36, v37, v38, v39, v40, v41, v42, v43, v44, v45, v46, v47, v48, v49, v50, v51, v52, v53, v54, v55, v56, v57, v58, v59, v60, v61, v62, v63, v64, v65, v66, v67, v68, v69, v70, v71, v72, v73, v74, v75, v76, v77, v78, v79, v80, v81, v82, v83, v84, v85, v86, v87, v88, v89, v90, v91, v92, v93, v94, v95, v96, v97, v98, v99, v100, v101, v102, v103, v104, v105, v106, v107, v108, v109, v110, v111, v112, v113, v114, v115, v116, v117, v118, v119, v120, v121, v122, v123, v124, v125, v126, v127, v128, v129, v130, v131, v132, v133, v134, v135, v136, v137, v138, v139, v140, v141, v142, v143, v144, v145, v146, v147, v148, v149, v150, v151, v152, v153, v154, v155, v156, v157, v158, v159, v160, v161, v162, v163, v164, v165, v166, v167, v168, v169, v170, v171, v172, v173, v174, v175, v176, v177, v178, v179, v180, v181, v182, v183, v184, v185, v186, v187, v188, v189, v190, v191, v192, v193, v194, v195, v196, v197, v198, v199, v200, v201, v202, v203, v204, v205, v206, v207, v208, v209, v210, v211, v212, v213, v214, v215, v216, v217, v218, v219, v220, v221, v222, v223, v224, v225, v226, v227, v228, v229, v230, v231, v232, v233, v234, v235, v236, v237, v238, v239, v240, v241, v242, v243, v244, v245, v246, v247, v248, v249, v250, v251, v252, v253, v254, v255, v256, v257, v258, v259, v260, v261, v262], defers := [] } w4 := by
 have hjn : (j : Int) ≤ (n : Int) := by omega
 simp only [r35, Tryz.f9, opsIn, Option.bind_some, Option.or_some, Option.none_or, Option.or_none, Option.getD_some, Option.getD_none, reduceIte, Nat.reduceEqDiff]
 refine wp_region_held_drew (S := fun w' => w'.cell? ⟨ab, j * 2, none⟩ = some (.int .i64 mj) ∧ w'.cell? ⟨ab, j * 2 + 1, none⟩ = some (.slice (some ⟨aj, 0, none⟩) L cj)) (by kernel_rfl) ?_ (fun hHeld => ?_)
 ·exact HSW.out _ (kbelow_dN (Below.refl _ _) 1)
 have HB0 : Hid (Below w4.heap.size w4 w4.drew) := Lib.hid (kbelow_dN (Below.refl _ _) 1)
 generalize w4.drew = V0 at HB0 hHeld ⊢
 refine wpAnyH_take (i := 0) (oi := _) (v := .slice (some ⟨ab, 0, none⟩) (n + 1) (n + 1)) rfl (by as_aux_lemma => kernel_rfl) (by as_aux_lemma => kernel_rfl) (by as_aux_lemma => kernel_rfl) (fun c a w h => hP c a _ _ w h) (Or.inl ⟨by as_aux_lemma => kernel_rfl, fun w' hSw => ?_⟩) (by assumption) ?_
 ·((try dsimp only at hSw); go_simp; try with_reducible rfl)
 try simp only [Act.put, List.setIfInBounds_toArray, List.set_cons_zero, List.set_cons_succ]
 refine wpAnyH_take (i := 1) (oi := _) (v := .int .i64 (j : Int)) rfl (by as_aux_lemma => kernel_rfl) (by as_aux_lemma => kernel_rfl) (by as_aux_lemma => kernel_rfl) (fun c a w h => hP c a _ _ w h) (Or.inl ⟨by as_aux_lemma => kernel_rfl, fun w' hSw => ?_⟩) (by assumption) ?_
 ·((try dsimp only at hSw); go_simp; try with_reducible rfl)
 try simp only [Act.put, List.setIfInBounds_toArray, List.set_cons_zero, List.set_cons_succ]
 refine wpAnyH_take (i := 2) (oi := _) (v := .pointer (some ⟨ab, j * 2, none⟩)) rfl (by as_aux_lemma => kernel_rfl) (by as_aux_lemma => kernel_rfl) (by as_aux_lemma => kernel_rfl) (fun c a w h => hP c a _ _ w h) (Or.inl ⟨by as_aux_lemma => kernel_rfl, fun w' hSw => ?_⟩) (by assumption) ?_
 ·((try dsimp only at hSw); go_simp; try with_reducible rfl)
 try simp only [Act.put, List.setIfInBounds_toArray, List.set_cons_zero, List.set_cons_succ]
 refine wpAnyH_take (i := 3) (oi := _) (v := .pointer (some ⟨ab, j * 2, none⟩)) rfl (by as_aux_lemma => kernel_rfl) (by as_aux_lemma => kernel_rfl) (by as_aux_lemma => kernel_rfl) (fun c a w h => hP c a _ _ w h) (Or.inl ⟨by as_aux_lemma => kernel_rfl, fun w' hSw => ?_⟩) (by assumption) ?_
 ·((try dsimp only at hSw); go_simp; try with_reducible rfl)
 try simp only [Act.put, List.setIfInBounds_toArray, List.set_cons_zero, List.set_cons_succ]
 refine wpAnyH_take (i := 4) (oi := _) (v := .int .i64 mj) rfl (by as_aux_lemma => kernel_rfl) (by as_aux_lemma => kernel_rfl) (by as_aux_lemma => kernel_rfl) (fun c a w h => hP c a _ _ w h) (Or.inl ⟨by as_aux_lemma => kernel_rfl, fun w' hSw => ?_⟩) (by assumption) ?_
 ·((try dsimp only at hSw); go_simp; try with_reducible rfl)
 try simp only [Act.put, List.setIfInBounds_toArray, List.set_cons_zero, List.set_cons_succ]
 refine wpAnyH_take (i := 5) (oi := _) (v := .int .i64 (q : Int)) rfl (by as_aux_lemma => kernel_rfl) (by as_aux_lemma => kernel_rfl) (by as_aux_lemma => kernel_rfl) (fun c a w h => hP c a _ _ w h) (Or.inl ⟨by as_aux_lemma => kernel_rfl, fun w' hSw => ?_⟩) (by assumption) ?_
 ·((try dsimp only at hSw); go_simp; try with_reducible rfl)
 try simp only [Act.put, List.setIfInBounds_toArray, List.set_cons_zero, List.set_cons_succ]
 refine wpAnyH_take (i := 8) (oi := _) (v := .int .i64 (q : Int)) rfl (by as_aux_lemma => kernel_rfl) (by as_aux_lemma => kernel_rfl) (by as_aux_lemma => kernel_rfl) (fun c a w h => hP c a _ _ w h) (Or.inl ⟨by as_aux_lemma => kernel_rfl, fun w' hSw => ?_⟩) (by assumption) ?_
 ·((try dsimp only at hSw); go_simp; try with_reducible rfl)
 try simp only [Act.put, List.setIfInBounds_toArray, List.set_cons_zero, List.set_cons_succ]
 refine wpAnyH_take (i := 12) (oi := _) (v := .slice (some ⟨ab, 0, none⟩) (n + 1) (n + 1)) rfl (by as_aux_lemma => kernel_rfl) (by as_aux_lemma => kernel_rfl) (by as_aux_lemma => kernel_rfl) (fun c a w h => hP c a _ _ w h) (Or.inl ⟨by as_aux_lemma => kernel_rfl, fun w' hSw => ?_⟩) (by assumption) ?_
 ·((try dsimp only at hSw); go_simp; try with_reducible rfl)
 try simp only [Act.put, List.setIfInBounds_toArray, List.set_cons_zero, List.set_cons_succ]
 refine wpAnyH_take (i := 13) (oi := _) (v := .int .i64 (j : Int)) rfl (by as_aux_lemma => kernel_rfl) (by as_aux_lemma => kernel_rfl) (by as_aux_lemma => kernel_rfl) (fun c a w h => hP c a _ _ w h) (Or.inl ⟨by as_aux_lemma => kernel_rfl, fun w' hSw => ?_⟩) (by assumption) ?_
 ·((try dsimp only at hSw); go_simp; try with_reducible rfl)
 try simp only [Act.put, List.setIfInBounds_toArray, List.set_cons_zero, List.set_cons_succ]
 refine wpAnyH_take (i := 14) (oi := _) (v := .pointer (some ⟨ab, j * 2, none⟩)) rfl (by as_aux_lemma => kernel_rfl) (by as_aux_lemma => kernel_rfl) (by as_aux_lemma => kernel_rfl) (fun c a w h => hP c a _ _ w h) (Or.inl ⟨by as_aux_lemma => kernel_rfl, fun w' hSw => ?_⟩) (by assumption) ?_
 ·((try dsimp only at hSw); go_simp; try with_reducible rfl)
 try simp only [Act.put, List.setIfInBounds_toArray, List.set_cons_zero, List.set_cons_succ]
 refine wpAnyH_take (i := 15) (oi := _) (v := .pointer (some ⟨ab, j * 2 + 1, none⟩)) rfl (by as_aux_lemma => kernel_rfl) (by as_aux_lemma => kernel_rfl) (by as_aux_lemma => kernel_rfl) (fun c a w h => hP c a _ _ w h) (Or.inl ⟨by as_aux_lemma => kernel_rfl, fun w' hSw => ?_⟩) (by assumption) ?_
 ·((try dsimp only at hSw); go_simp; try with_reducible rfl)
 try simp only [Act.put, List.setIfInBounds_toArray, List.set_cons_zero, List.set_cons_succ]
 refine wpAnyH_take (i := 16) (oi := _) (v := .slice (some ⟨aj, 0, none⟩) L cj) rfl (by as_aux_lemma => kernel_rfl) (by as_aux_lemma => kernel_rfl) (by as_aux_lemma => kernel_rfl) (fun c a w h => hP c a _ _ w h) (Or.inl ⟨by as_aux_lemma => kernel_rfl, fun w' hSw => ?_⟩) (by assumption) ?_
 ·((try dsimp only at hSw); go_simp; try with_reducible rfl)
 try simp only [Act.put, List.setIfInBounds_toArray, List.set_cons_zero, List.set_cons_succ]
 refine wpAnyH_ready (rs := [6, 11, 19]) (by as_aux_lemma => kernel_rfl) (by simp) ?_
 refine AllReadyH.cons rfl (fun K hK => ?_) (AllReadyH.cons rfl (fun K hK => ?_) (AllReadyH.cons rfl (fun K hK => ?_) AllReadyH.nil))
 ·skip
  go_simp
  refine (HTKC.out V0).mono ?_
  rintro e V1 ⟨rfl, hb⟩
  have HB1 := Lib.hid (HB0.out.trans (hb.mono HB0.out.size))
  clear hb
  try go_wp2_with fail
  refine hK.out _ _ (by exact HSW.out _ HB1.out) (fun hHeld => ?_)
  clear hK K
  try simp only [Act.put, List.setIfInBounds_toArray, List.set_cons_zero, List.set_cons_succ]
  refine wpAnyH_take (i := 7) (oi := _) (v := .int .i64 md) rfl (by as_aux_lemma => kernel_rfl) (by as_aux_lemma => kernel_rfl) (by as_aux_lemma => kernel_rfl) (fun c a w h => hP c a _ _ w h) (Or.inl ⟨by as_aux_lemma => kernel_rfl, fun w' hSw => ?_⟩) (by assumption) ?_
  ·((try dsimp only at hSw); go_simp; try with_reducible rfl)
  try simp only [Act.put, List.setIfInBounds_toArray, List.set_cons_zero, List.set_cons_succ]
  refine wpAnyH_ready (rs := [9, 11, 19]) (by as_aux_lemma => kernel_rfl) (by simp) ?_
  refine AllReadyH.cons rfl (fun K hK => ?_) (AllReadyH.cons rfl (fun K hK => ?_) (AllReadyH.cons rfl (fun K hK => ?_) AllReadyH.nil))
  ·skip
   go_simp
   refine (HLYC.out V1).mono ?_
   rintro e V2 ⟨rfl, hb⟩
   have HB2 := Lib.hid (HB1.out.trans (hb.mono HB1.out.size))
   clear hb
   try go_wp2_with fail
   refine hK.out _ _ (by exact HSW.out _ HB2.out) (fun hHeld => ?_)
   clear hK K
   try simp only [Act.put, List.setIfInBounds_toArray, List.set_cons_zero, List.set_cons_succ]
   refine wpAnyH_take (i := 10) (oi := _) (v := .int .i64 nd) rfl (by as_aux_lemma => kernel_rfl) (by as_aux_lemma => kernel_rfl) (by as_aux_lemma => kernel_rfl) (fun c a w h => hP c a _ _ w h) (Or.inl ⟨by as_aux_lemma => kernel_rfl, fun w' hSw => ?_⟩) (by assumption) ?_
   ·((try dsimp only at hSw); go_simp; try with_reducible rfl)
   try simp only [Act.put, List.setIfInBounds_toArray, List.set_cons_zero, List.set_cons_succ]
   refine wpAnyH_ready (rs := [11, 19]) (by as_aux_lemma => kernel_rfl) (by simp) ?_
   refine AllReadyH.cons rfl (fun K hK => ?_) (AllReadyH.cons rfl (fun K hK => ?_) AllReadyH.nil)
   ·skip
    go_simp
    have hbx := kbelow_box V2 (.cells #[] 4)
    have HB3 := Lib.hid (HB2.out.trans (hbx.mono HB2.out.size))
    have HLeb : Hid (w4.heap.size ≤ V2.heap.size) := Lib.hid HB2.out.size
    have HE : Hid (V2.heap.size < (V2.alloc (.cells #[] 4)).heap.size) := Lib.hid (by simp)
    clear hbx
    refine hK.out _ _ (by exact HSW.out _ HB3.out) (fun hHeld => ?_)
    clear hK K
    try simp only [Act.put, List.setIfInBounds_toArray, List.set_cons_zero, List.set_cons_succ]
    generalize V2.alloc (.cells #[] 4) = V3 at HB3 hHeld HE ⊢
    generalize V2.heap.size = eb at HLeb HE ⊢
    refine wpAnyH_ready (rs := [17, 19]) (by as_aux_lemma => kernel_rfl) (by simp) ?_
    refine AllReadyH.cons rfl (fun K hK => ?_) (AllReadyH.cons rfl (fun K hK => ?_) AllReadyH.nil)
    ·skip
     obtain ⟨kb, c, V4, hrun, hb, hkb, hka⟩ := app_kept V3 eb aj L cj kj hL40 (HKC.out V3 HB3.out) HE.out
     refine step_app_bl _ _ rfl (.tmp 150) (.tmp 155) rfl rfl _ _ _ (by simp [Act.eval]) (by simp [Act.eval]) hrun ?_
     have HB4 := Lib.hid (HB3.out.trans (hb.mono HB3.out.size))
     have HKB := Lib.hid hka
     have HLkb : Hid (w4.heap.size ≤ kb) := Lib.hid (kb_ge hkb HLeb.out HB3.out.size)
     replace HE := Lib.hid (Nat.lt_of_lt_of_le HE.out hb.size)
     clear hb hkb hka hrun
     refine hK.out _ _ (by exact HSW.out _ HB4.out) (fun hHeld => ?_)
     clear hK K
     try simp only [Act.put, List.setIfInBounds_toArray, List.set_cons_zero, List.set_cons_succ]
     refine wpAnyH_take (i := 18) (oi := _) (v := .agg #[.int .i64 nd, .slice (some ⟨kb, 0, none⟩) L c]) rfl (by as_aux_lemma => kernel_rfl) (by as_aux_lemma => kernel_rfl) (by as_aux_lemma => kernel_rfl) (fun c a w h => hP c a _ _ w h) (Or.inl ⟨by as_aux_lemma => kernel_rfl, fun w' hSw => ?_⟩) (by assumption) ?_
     ·((try dsimp only at hSw); go_simp; try with_reducible rfl)
     try simp only [Act.put, List.setIfInBounds_toArray, List.set_cons_zero, List.set_cons_succ]
     refine wpAnyH_ready (rs := [19]) (by as_aux_lemma => kernel_rfl) (by simp) ?_
     refine AllReadyH.cons rfl (fun K hK => ?_) AllReadyH.nil
     ·skip
      go_simp
      have hbx := kbelow_box V4 (.cells #[.int .i64 0, .slice none 0 0] 72)
      have HB5 := Lib.hid (HB4.out.trans (hbx.mono HB4.out.size))
      have HLg : Hid (w4.heap.size ≤ V4.heap.size) := Lib.hid HB4.out.size
      have HNge : Hid (V4.heap.size ≠ eb) := Lib.hid (Nat.ne_of_gt HE.out)
      have HNgk : Hid (V4.heap.size ≠ kb) := Lib.hid (Nat.ne_of_gt HKB.out.1)
      replace HE := Lib.hid (Nat.lt_of_lt_of_le HE.out hbx.size)
      replace HKB := Lib.hid (HKB.out.below hbx)
      have HG : Hid (Cbx (V4.alloc (.cells #[.int .i64 0, .slice none 0 0] 72)) V4.heap.size [.int .i64 0, .slice none 0 0]) := Lib.hid (Cbx.made V4 [.int .i64 0, .slice none 0 0] _)
      clear hbx
      refine hK.out _ _ (by exact HSW.out _ HB5.out) (fun hHeld => ?_)
      clear hK K
      try simp only [Act.put, List.setIfInBounds_toArray, List.set_cons_zero, List.set_cons_succ]
      generalize V4.alloc (.cells #[.int .i64 0, .slice none 0 0] 72) = V5 at HB5 hHeld HE HG HKB ⊢
      generalize V4.heap.size = g at HLg HNge HNgk HG ⊢
      have x0 := HG.out.at 0 rfl
      have x1 := HG.out.at 1 rfl
      have f0 := HG.out.fr 0 rfl
      have f1 := HG.out.fr 1 rfl
      refine wpAnyH_ready (rs := [20]) (by as_aux_lemma => kernel_rfl) (by simp) ?_
      refine AllReadyH.cons rfl (fun K hK => ?_) AllReadyH.nil
      go_simp
      clear x0 x1 f0 f1
      have HNX := Lib.hid (NxAt.made HG.out HKB.out HLg.out HLkb.out HNgk.out nd (c := c))
      have HBX := Lib.hid ((HB5.out.setCell (p := ⟨g, 0, none⟩) HLg.out (.int .i64 nd)).setCell (p := ⟨g, 1, none⟩) HLg.out (.slice (some ⟨kb, 0, none⟩) L c))
      refine hK.out _ _ (by exact HSW.out _ HBX.out) (fun hHeld => ?_)
      clear hK K
      try simp only [Act.put, List.setIfInBounds_toArray, List.set_cons_zero, List.set_cons_succ]
      refine wpAnyH_done (by as_aux_lemma => kernel_rfl) ?_ _
      exact hQ g kb c _ _ _ _ _ _ _ _ _ _ _ _ _ _ _ _ _ _ _ _ HNX.out HBX.out
    ·skip
     go_simp
     have hbx := kbelow_box V3 (.cells #[.int .i64 0, .slice none 0 0] 72)
     have HB4 := Lib.hid (HB3.out.trans (hbx.mono HB3.out.size))
     have HLg : Hid (w4.heap.size ≤ V3.heap.size) := Lib.hid HB3.out.size
     have HNge : Hid (V3.heap.size ≠ eb) := Lib.hid (Nat.ne_of_gt HE.out)
     replace HE := Lib.hid (Nat.lt_of_lt_of_le HE.out hbx.size)
     have HG : Hid (Cbx (V3.alloc (.cells #[.int .i64 0, .slice none 0 0] 72)) V3.heap.size [.int .i64 0, .slice none 0 0]) := Lib.hid (Cbx.made V3 [.int .i64 0, .slice none 0 0] _)
     clear hbx
     refine hK.out _ _ (by exact HSW.out _ HB4.out) (fun hHeld => ?_)
     clear hK K
     try simp only [Act.put, List.setIfInBounds_toArray, List.set_cons_zero, List.set_cons_succ]
     generalize V3.alloc (.cells #[.int .i64 0, .slice none 0 0] 72) = V4 at HB4 hHeld HE HG ⊢
     generalize V3.heap.size = g at HLg HNge HG ⊢
     refine wpAnyH_ready (rs := [17]) (by as_aux_lemma => kernel_rfl) (by simp) ?_
     refine AllReadyH.cons rfl (fun K hK => ?_) AllReadyH.nil
     ·skip
      obtain ⟨kb, c, V5, hrun, hb, hkb, hka⟩ := app_kept V4 eb aj L cj kj hL40 (HKC.out V4 HB4.out) HE.out
      refine step_app_bl _ _ rfl (.tmp 150) (.tmp 155) rfl rfl _ _ _ (by simp [Act.eval]) (by simp [Act.eval]) hrun ?_
      have HB5 := Lib.hid (HB4.out.trans (hb.mono HB4.out.size))
      have HKB := Lib.hid hka
      have HLkb : Hid (w4.heap.size ≤ kb) := Lib.hid (kb_ge hkb HLeb.out HB4.out.size)
      have HNgk : Hid (g ≠ kb) := Lib.hid (kb_ne hkb HNge.out HG.out.lt)
      replace HE := Lib.hid (Nat.lt_of_lt_of_le HE.out hb.size)
      replace HG := Lib.hid (HG.out.below hb HG.out.lt)
      clear hb hkb hka hrun
      refine hK.out _ _ (by exact HSW.out _ HB5.out) (fun hHeld => ?_)
      clear hK K
      try simp only [Act.put, List.setIfInBounds_toArray, List.set_cons_zero, List.set_cons_succ]
      refine wpAnyH_take (i := 18) (oi := _) (v := .agg #[.int .i64 nd, .slice (some ⟨kb, 0, none⟩) L c]) rfl (by as_aux_lemma => kernel_rfl) (by as_aux_lemma => kernel_rfl) (by as_aux_lemma => kernel_rfl) (fun c a w h => hP c a _ _ w h) (Or.inl ⟨by as_aux_lemma => kernel_rfl, fun w' hSw => ?_⟩) (by assumption) ?_
      ·((try dsimp only at hSw); go_simp; try with_reducible rfl)
      try simp only [Act.put, List.setIfInBounds_toArray, List.set_cons_zero, List.set_cons_succ]
      have x0 := HG.out.at 0 rfl
      have x1 := HG.out.at 1 rfl
      have f0 := HG.out.fr 0 rfl
      have f1 := HG.out.fr 1 rfl
      refine wpAnyH_ready (rs := [20]) (by as_aux_lemma => kernel_rfl) (by simp) ?_
      refine AllReadyH.cons rfl (fun K hK => ?_) AllReadyH.nil
      go_simp
      clear x0 x1 f0 f1
      have HNX := Lib.hid (NxAt.made HG.out HKB.out HLg.out HLkb.out HNgk.out nd (c := c))
      have HBX := Lib.hid ((HB5.out.setCell (p := ⟨g, 0, none⟩) HLg.out (.int .i64 nd)).setCell (p := ⟨g, 1, none⟩) HLg.out (.slice (some ⟨kb, 0, none⟩) L c))
      refine hK.out _ _ (by exact HSW.out _ HBX.out) (fun hHeld => ?_)
      clear hK K
      try simp only [Act.put, List.setIfInBounds_toArray, List.set_cons_zero, List.set_cons_succ]
      refine wpAnyH_done (by as_aux_lemma => kernel_rfl) ?_ _
      exact hQ g kb c _ _ _ _ _ _ _ _ _ _ _ _ _ _ _ _ _ _ _ _ HNX.out HBX.out
   ·skip
    go_simp
    have hbx := kbelow_box V2 (.cells #[.int .i64 0, .slice none 0 0] 72)
    have HB3 := Lib.hid (HB2.out.trans (hbx.mono HB2.out.size))
    have HLg : Hid (w4.heap.size ≤ V2.heap.size) := Lib.hid HB2.out.size
    have HG : Hid (Cbx (V2.alloc (.cells #[.int .i64 0, .slice none 0 0] 72)) V2.heap.size [.int .i64 0, .slice none 0 0]) := Lib.hid (Cbx.made V2 [.int .i64 0, .slice none 0 0] _)
    clear hbx
    refine hK.out _ _ (by exact HSW.out _ HB3.out) (fun hHeld => ?_)
    clear hK K
    try simp only [Act.put, List.setIfInBounds_toArray, List.set_cons_zero, List.set_cons_succ]
    generalize V2.alloc (.cells #[.int .i64 0, .slice none 0 0] 72) = V3 at HB3 hHeld HG ⊢
    generalize V2.heap.size = g at HLg HG ⊢
    refine wpAnyH_ready (rs := [11]) (by as_aux_lemma => kernel_rfl) (by simp) ?_
    refine AllReadyH.cons rfl (fun K hK => ?_) AllReadyH.nil
    ·skip
     go_simp
     have hbx := kbelow_box V3 (.cells #[] 4)
     have HB4 := Lib.hid (HB3.out.trans (hbx.mono HB3.out.size))
     have HLeb : Hid (w4.heap.size ≤ V3.heap.size) := Lib.hid HB3.out.size
     have HNge : Hid (g ≠ V3.heap.size) := Lib.hid (Nat.ne_of_lt HG.out.lt)
     replace HG := Lib.hid (HG.out.below hbx HG.out.lt)
     have HE : Hid (V3.heap.size < (V3.alloc (.cells #[] 4)).heap.size) := Lib.hid (by simp)
     clear hbx
     refine hK.out _ _ (by exact HSW.out _ HB4.out) (fun hHeld => ?_)
     clear hK K
     try simp only [Act.put, List.setIfInBounds_toArray, List.set_cons_zero, List.set_cons_succ]
     generalize V3.alloc (.cells #[] 4) = V4 at HB4 hHeld HE HG ⊢
     generalize V3.heap.size = eb at HLeb HNge HE ⊢
     refine wpAnyH_ready (rs := [17]) (by as_aux_lemma => kernel_rfl) (by simp) ?_
     refine AllReadyH.cons rfl (fun K hK => ?_) AllReadyH.nil
     ·skip
      obtain ⟨kb, c, V5, hrun, hb, hkb, hka⟩ := app_kept V4 eb aj L cj kj hL40 (HKC.out V4 HB4.out) HE.out
      refine step_app_bl _ _ rfl (.tmp 150) (.tmp 155) rfl rfl _ _ _ (by simp [Act.eval]) (by simp [Act.eval]) hrun ?_
      have HB5 := Lib.hid (HB4.out.trans (hb.mono HB4.out.size))
      have HKB := Lib.hid hka
      have HLkb : Hid (w4.heap.size ≤ kb) := Lib.hid (kb_ge hkb HLeb.out HB4.out.size)
      have HNgk : Hid (g ≠ kb) := Lib.hid (kb_ne hkb HNge.out HG.out.lt)
      replace HE := Lib.hid (Nat.lt_of_lt_of_le HE.out hb.size)
      replace HG := Lib.hid (HG.out.below hb HG.out.lt)
      clear hb hkb hka hrun
      refine hK.out _ _ (by exact HSW.out _ HB5.out) (fun hHeld => ?_)
      clear hK K
      try simp only [Act.put, List.setIfInBounds_toArray, List.set_cons_zero, List.set_cons_succ]
      refine wpAnyH_take (i := 18) (oi := _) (v := .agg #[.int .i64 nd, .slice (some ⟨kb, 0, none⟩) L c]) rfl (by as_aux_lemma => kernel_rfl) (by as_aux_lemma => kernel_rfl) (by as_aux_lemma => kernel_rfl) (fun c a w h => hP c a _ _ w h) (Or.inl ⟨by as_aux_lemma => kernel_rfl, fun w' hSw => ?_⟩) (by assumption) ?_
      ·((try dsimp only at hSw); go_simp; try with_reducible rfl)
      try simp only [Act.put, List.setIfInBounds_toArray, List.set_cons_zero, List.set_cons_succ]
      have x0 := HG.out.at 0 rfl
      have x1 := HG.out.at 1 rfl
      have f0 := HG.out.fr 0 rfl
      have f1 := HG.out.fr 1 rfl
      refine wpAnyH_ready (rs := [20]) (by as_aux_lemma => kernel_rfl) (by simp) ?_
      refine AllReadyH.cons rfl (fun K hK => ?_) AllReadyH.nil
      go_simp
      clear x0 x1 f0 f1
      have HNX := Lib.hid (NxAt.made HG.out HKB.out HLg.out HLkb.out HNgk.out nd (c := c))
      have HBX := Lib.hid ((HB5.out.setCell (p := ⟨g, 0, none⟩) HLg.out (.int .i64 nd)).setCell (p := ⟨g, 1, none⟩) HLg.out (.slice (some ⟨kb, 0, none⟩) L c))
      refine hK.out _ _ (by exact HSW.out _ HBX.out) (fun hHeld => ?_)
      clear hK K
      try simp only [Act.put, List.setIfInBounds_toArray, List.set_cons_zero, List.set_cons_succ]
      refine wpAnyH_done (by as_aux_lemma => kernel_rfl) ?_ _
      exact hQ g kb c _ _ _ _ _ _ _ _ _ _ _ _ _ _ _ _ _ _ _ _ HNX.out HBX.out
  ·skip
   go_simp
   have hbx := kbelow_box V1 (.cells #[] 4)
   have HB2 := Lib.hid (HB1.out.trans (hbx.mono HB1.out.size))
   have HLeb : Hid (w4.heap.size ≤ V1.heap.size) := Lib.hid HB1.out.size
   have HE : Hid (V1.heap.size < (V1.alloc (.cells #[] 4)).heap.size) := Lib.hid (by simp)
   clear hbx
   refine hK.out _ _ (by exact HSW.out _ HB2.out) (fun hHeld => ?_)
   clear hK K
   try simp only [Act.put, List.setIfInBounds_toArray, List.set_cons_zero, List.set_cons_succ]
   generalize V1.alloc (.cells #[] 4) = V2 at HB2 hHeld HE ⊢
   generalize V1.heap.size = eb at HLeb HE ⊢
   refine wpAnyH_ready (rs := [9, 19]) (by as_aux_lemma => kernel_rfl) (by simp) ?_
   refine AllReadyH.cons rfl (fun K hK => ?_) (AllReadyH.cons rfl (fun K hK => ?_) AllReadyH.nil)
   ·skip
    go_simp
    refine (HLYC.out V2).mono ?_
    rintro e V3 ⟨rfl, hb⟩
    have HB3 := Lib.hid (HB2.out.trans (hb.mono HB2.out.size))
    replace HE := Lib.hid (Nat.lt_of_lt_of_le HE.out hb.size)
    clear hb
    try go_wp2_with fail
    refine hK.out _ _ (by exact HSW.out _ HB3.out) (fun hHeld => ?_)
    clear hK K
    try simp only [Act.put, List.setIfInBounds_toArray, List.set_cons_zero, List.set_cons_succ]
    refine wpAnyH_take (i := 10) (oi := _) (v := .int .i64 nd) rfl (by as_aux_lemma => kernel_rfl) (by as_aux_lemma => kernel_rfl) (by as_aux_lemma => kernel_rfl) (fun c a w h => hP c a _ _ w h) (Or.inl ⟨by as_aux_lemma => kernel_rfl, fun w' hSw => ?_⟩) (by assumption) ?_
    ·((try dsimp only at hSw); go_simp; try with_reducible rfl)
    try simp only [Act.put, List.setIfInBounds_toArray, List.set_cons_zero, List.set_cons_succ]
    refine wpAnyH_ready (rs := [17, 19]) (by as_aux_lemma => kernel_rfl) (by simp) ?_
    refine AllReadyH.cons rfl (fun K hK => ?_) (AllReadyH.cons rfl (fun K hK => ?_) AllReadyH.nil)
    ·skip
     obtain ⟨kb, c, V4, hrun, hb, hkb, hka⟩ := app_kept V3 eb aj L cj kj hL40 (HKC.out V3 HB3.out) HE.out
     refine step_app_bl _ _ rfl (.tmp 150) (.tmp 155) rfl rfl _ _ _ (by simp [Act.eval]) (by simp [Act.eval]) hrun ?_
     have HB4 := Lib.hid (HB3.out.trans (hb.mono HB3.out.size))
     have HKB := Lib.hid hka
     have HLkb : Hid (w4.heap.size ≤ kb) := Lib.hid (kb_ge hkb HLeb.out HB3.out.size)
     replace HE := Lib.hid (Nat.lt_of_lt_of_le HE.out hb.size)
     clear hb hkb hka hrun
     refine hK.out _ _ (by exact HSW.out _ HB4.out) (fun hHeld => ?_)
     clear hK K
     try simp only [Act.put, List.setIfInBounds_toArray, List.set_cons_zero, List.set_cons_succ]
     refine wpAnyH_take (i := 18) (oi := _) (v := .agg #[.int .i64 nd, .slice (some ⟨kb, 0, none⟩) L c]) rfl (by as_aux_lemma => kernel_rfl) (by as_aux_lemma => kernel_rfl) (by as_aux_lemma => kernel_rfl) (fun c a w h => hP c a _ _ w h) (Or.inl ⟨by as_aux_lemma => kernel_rfl, fun w' hSw => ?_⟩) (by assumption) ?_
     ·((try dsimp only at hSw); go_simp; try with_reducible rfl)
     try simp only [Act.put, List.setIfInBounds_toArray, List.set_cons_zero, List.set_cons_succ]
     refine wpAnyH_ready (rs := [19]) (by as_aux_lemma => kernel_rfl) (by simp) ?_
     refine AllReadyH.cons rfl (fun K hK => ?_) AllReadyH.nil
     ·skip
      go_simp
      have hbx := kbelow_box V4 (.cells #[.int .i64 0, .slice none 0 0] 72)
      have HB5 := Lib.hid (HB4.out.trans (hbx.mono HB4.out.size))
      have HLg : Hid (w4.heap.size ≤ V4.heap.size) := Lib.hid HB4.out.size
      have HNge : Hid (V4.heap.size ≠ eb) := Lib.hid (Nat.ne_of_gt HE.out)
      have HNgk : Hid (V4.heap.size ≠ kb) := Lib.hid (Nat.ne_of_gt HKB.out.1)
      replace HE := Lib.hid (Nat.lt_of_lt_of_le HE.out hbx.size)
      replace HKB := Lib.hid (HKB.out.below hbx)
      have HG : Hid (Cbx (V4.alloc (.cells #[.int .i64 0, .slice none 0 0] 72)) V4.heap.size [.int .i64 0, .slice none 0 0]) := Lib.hid (Cbx.made V4 [.int .i64 0, .slice none 0 0] _)
      clear hbx
      refine hK.out _ _ (by exact HSW.out _ HB5.out) (fun hHeld => ?_)
      clear hK K
      try simp only [Act.put, List.setIfInBounds_toArray, List.set_cons_zero, List.set_cons_succ]
      generalize V4.alloc (.cells #[.int .i64 0, .slice none 0 0] 72) = V5 at HB5 hHeld HE HG HKB ⊢
      generalize V4.heap.size = g at HLg HNge HNgk HG ⊢
      have x0 := HG.out.at 0 rfl
      have x1 := HG.out.at 1 rfl
      have f0 := HG.out.fr 0 rfl
      have f1 := HG.out.fr 1 rfl
      refine wpAnyH_ready (rs := [20]) (by as_aux_lemma => kernel_rfl) (by simp) ?_
      refine AllReadyH.cons rfl (fun K hK => ?_) AllReadyH.nil
      go_simp
      clear x0 x1 f0 f1
      have HNX := Lib.hid (NxAt.made HG.out HKB.out HLg.out HLkb.out HNgk.out nd (c := c))
      have HBX := Lib.hid ((HB5.out.setCell (p := ⟨g, 0, none⟩) HLg.out (.int .i64 nd)).setCell (p := ⟨g, 1, none⟩) HLg.out (.slice (some ⟨kb, 0, none⟩) L c))
      refine hK.out _ _ (by exact HSW.out _ HBX.out) (fun hHeld => ?_)
      clear hK K
      try simp only [Act.put, List.setIfInBounds_toArray, List.set_cons_zero, List.set_cons_succ]
      refine wpAnyH_done (by as_aux_lemma => kernel_rfl) ?_ _
      exact hQ g kb c _ _ _ _ _ _ _ _ _ _ _ _ _ _ _ _ _ _ _ _ HNX.out HBX.out
    ·skip
     go_simp
     have hbx := kbelow_box V3 (.cells #[.int .i64 0, .slice none 0 0] 72)
     have HB4 := Lib.hid (HB3.out.trans (hbx.mono HB3.out.size))
     have HLg : Hid (w4.heap.size ≤ V3.heap.size) := Lib.hid HB3.out.size
     have HNge : Hid (V3.heap.size ≠ eb) := Lib.hid (Nat.ne_of_gt HE.out)
     replace HE := Lib.hid (Nat.lt_of_lt_of_le HE.out hbx.size)
     have HG : Hid (Cbx (V3.alloc (.cells #[.int .i64 0, .slice none 0 0] 72)) V3.heap.size [.int .i64 0, .slice none 0 0]) := Lib.hid (Cbx.made V3 [.int .i64 0, .slice none 0 0] _)
     clear hbx
     refine hK.out _ _ (by exact HSW.out _ HB4.out) (fun hHeld => ?_)
     clear hK K
     try simp only [Act.put, List.setIfInBounds_toArray, List.set_cons_zero, List.set_cons_succ]
     generalize V3.alloc (.cells #[.int .i64 0, .slice none 0 0] 72) = V4 at HB4 hHeld HE HG ⊢
     generalize V3.heap.size = g at HLg HNge HG ⊢
     refine wpAnyH_ready (rs := [17]) (by as_aux_lemma => kernel_rfl) (by simp) ?_
     refine AllReadyH.cons rfl (fun K hK => ?_) AllReadyH.nil
     ·skip
      obtain ⟨kb, c, V5, hrun, hb, hkb, hka⟩ := app_kept V4 eb aj L cj kj hL40 (HKC.out V4 HB4.out) HE.out
      refine step_app_bl _ _ rfl (.tmp 150) (.tmp 155) rfl rfl _ _ _ (by simp [Act.eval]) (by simp [Act.eval]) hrun ?_
      have HB5 := Lib.hid (HB4.out.trans (hb.mono HB4.out.size))
      have HKB := Lib.hid hka
      have HLkb : Hid (w4.heap.size ≤ kb) := Lib.hid (kb_ge hkb HLeb.out HB4.out.size)
      have HNgk : Hid (g ≠ kb) := Lib.hid (kb_ne hkb HNge.out HG.out.lt)
      replace HE := Lib.hid (Nat.lt_of_lt_of_le HE.out hb.size)
      replace HG := Lib.hid (HG.out.below hb HG.out.lt)
      clear hb hkb hka hrun
      refine hK.out _ _ (by exact HSW.out _ HB5.out) (fun hHeld => ?_)
      clear hK K
      try simp only [Act.put, List.setIfInBounds_toArray, List.set_cons_zero, List.set_cons_succ]
      refine wpAnyH_take (i := 18) (oi := _) (v := .agg #[.int .i64 nd, .slice (some ⟨kb, 0, none⟩) L c]) rfl (by as_aux_lemma => kernel_rfl) (by as_aux_lemma => kernel_rfl) (by as_aux_lemma => kernel_rfl) (fun c a w h => hP c a _ _ w h) (Or.inl ⟨by as_aux_lemma => kernel_rfl, fun w' hSw => ?_⟩) (by assumption) ?_
      ·((try dsimp only at hSw); go_simp; try with_reducible rfl)
      try simp only [Act.put, List.setIfInBounds_toArray, List.set_cons_zero, List.set_cons_succ]
      have x0 := HG.out.at 0 rfl
      have x1 := HG.out.at 1 rfl
      have f0 := HG.out.fr 0 rfl
      have f1 := HG.out.fr 1 rfl
      refine wpAnyH_ready (rs := [20]) (by as_aux_lemma => kernel_rfl) (by simp) ?_
      refine AllReadyH.cons rfl (fun K hK => ?_) AllReadyH.nil
      go_simp
      clear x0 x1 f0 f1
      have HNX := Lib.hid (NxAt.made HG.out HKB.out HLg.out HLkb.out HNgk.out nd (c := c))
      have HBX := Lib.hid ((HB5.out.setCell (p := ⟨g, 0, none⟩) HLg.out (.int .i64 nd)).setCell (p := ⟨g, 1, none⟩) HLg.out (.slice (some ⟨kb, 0, none⟩) L c))
      refine hK.out _ _ (by exact HSW.out _ HBX.out) (fun hHeld => ?_)
      clear hK K
      try simp only [Act.put, List.setIfInBounds_toArray, List.set_cons_zero, List.set_cons_succ]
      refine wpAnyH_done (by as_aux_lemma => kernel_rfl) ?_ _
      exact hQ g kb c _ _ _ _ _ _ _ _ _ _ _ _ _ _ _ _ _ _ _ _ HNX.out HBX.out
   ·skip
    go_simp
    have hbx := kbelow_box V2 (.cells #[.int .i64 0, .slice none 0 0] 72)
    have HB3 := Lib.hid (HB2.out.trans (hbx.mono HB2.out.size))
    have HLg : Hid (w4.heap.size ≤ V2.heap.size) := Lib.hid HB2.out.size
    have HNge : Hid (V2.heap.size ≠ eb) := Lib.hid (Nat.ne_of_gt HE.out)
    replace HE := Lib.hid (Nat.lt_of_lt_of_le HE.out hbx.size)
    have HG : Hid (Cbx (V2.alloc (.cells #[.int .i64 0, .slice none 0 0] 72)) V2.heap.size [.int .i64 0, .slice none 0 0]) := Lib.hid (Cbx.made V2 [.int .i64 0, .slice none 0 0] _)
    clear hbx
    refine hK.out _ _ (by exact HSW.out _ HB3.out) (fun hHeld => ?_)
    clear hK K
    try simp only [Act.put, List.setIfInBounds_toArray, List.set_cons_zero, List.set_cons_succ]
    generalize V2.alloc (.cells #[.int .i64 0, .slice none 0 0] 72) = V3 at HB3 hHeld HE HG ⊢
    generalize V2.heap.size = g at HLg HNge HG ⊢
    refine wpAnyH_ready (rs := [9]) (by as_aux_lemma => kernel_rfl) (by simp) ?_
    refine AllReadyH.cons rfl (fun K hK => ?_) AllReadyH.nil
    ·skip
     go_simp
     refine (HLYC.out V3).mono ?_
     rintro e V4 ⟨rfl, hb⟩
     have HB4 := Lib.hid (HB3.out.trans (hb.mono HB3.out.size))
     replace HE := Lib.hid (Nat.lt_of_lt_of_le HE.out hb.size)
     replace HG := Lib.hid (HG.out.below hb HG.out.lt)
     clear hb
     try go_wp2_with fail
     refine hK.out _ _ (by exact HSW.out _ HB4.out) (fun hHeld => ?_)
     clear hK K
     try simp only [Act.put, List.setIfInBounds_toArray, List.set_cons_zero, List.set_cons_succ]
     refine wpAnyH_take (i := 10) (oi := _) (v := .int .i64 nd) rfl (by as_aux_lemma => kernel_rfl) (by as_aux_lemma => kernel_rfl) (by as_aux_lemma => kernel_rfl) (fun c a w h => hP c a _ _ w h) (Or.inl ⟨by as_aux_lemma => kernel_rfl, fun w' hSw => ?_⟩) (by assumption) ?_
     ·((try dsimp only at hSw); go_simp; try with_reducible rfl)
     try simp only [Act.put, List.setIfInBounds_toArray, List.set_cons_zero, List.set_cons_succ]
     refine wpAnyH_ready (rs := [17]) (by as_aux_lemma => kernel_rfl) (by simp) ?_
     refine AllReadyH.cons rfl (fun K hK => ?_) AllReadyH.nil
     ·skip
      obtain ⟨kb, c, V5, hrun, hb, hkb, hka⟩ := app_kept V4 eb aj L cj kj hL40 (HKC.out V4 HB4.out) HE.out
      refine step_app_bl _ _ rfl (.tmp 150) (.tmp 155) rfl rfl _ _ _ (by simp [Act.eval]) (by simp [Act.eval]) hrun ?_
      have HB5 := Lib.hid (HB4.out.trans (hb.mono HB4.out.size))
      have HKB := Lib.hid hka
      have HLkb : Hid (w4.heap.size ≤ kb) := Lib.hid (kb_ge hkb HLeb.out HB4.out.size)
      have HNgk : Hid (g ≠ kb) := Lib.hid (kb_ne hkb HNge.out HG.out.lt)
      replace HE := Lib.hid (Nat.lt_of_lt_of_le HE.out hb.size)
      replace HG := Lib.hid (HG.out.below hb HG.out.lt)
      clear hb hkb hka hrun
      refine hK.out _ _ (by exact HSW.out _ HB5.out) (fun hHeld => ?_)
      clear hK K
      try simp only [Act.put, List.setIfInBounds_toArray, List.set_cons_zero, List.set_cons_succ]
      refine wpAnyH_take (i := 18) (oi := _) (v := .agg #[.int .i64 nd, .slice (some ⟨kb, 0, none⟩) L c]) rfl (by as_aux_lemma => kernel_rfl) (by as_aux_lemma => kernel_rfl) (by as_aux_lemma => kernel_rfl) (fun c a w h => hP c a _ _ w h) (Or.inl ⟨by as_aux_lemma => kernel_rfl, fun w' hSw => ?_⟩) (by assumption) ?_
      ·((try dsimp only at hSw); go_simp; try with_reducible rfl)
      try simp only [Act.put, List.setIfInBounds_toArray, List.set_cons_zero, List.set_cons_succ]
      have x0 := HG.out.at 0 rfl
      have x1 := HG.out.at 1 rfl
      have f0 := HG.out.fr 0 rfl
      have f1 := HG.out.fr 1 rfl
      refine wpAnyH_ready (rs := [20]) (by as_aux_lemma => kernel_rfl) (by simp) ?_
      refine AllReadyH.cons rfl (fun K hK => ?_) AllReadyH.nil
      go_simp
      clear x0 x1 f0 f1
      have HNX := Lib.hid (NxAt.made HG.out HKB.out HLg.out HLkb.out HNgk.out nd (c := c))
      have HBX := Lib.hid ((HB5.out.setCell (p := ⟨g, 0, none⟩) HLg.out (.int .i64 nd)).setCell (p := ⟨g, 1, none⟩) HLg.out (.slice (some ⟨kb, 0, none⟩) L c))
      refine hK.out _ _ (by exact HSW.out _ HBX.out) (fun hHeld => ?_)
      clear hK K
      try simp only [Act.put, List.setIfInBounds_toArray, List.set_cons_zero, List.set_cons_succ]
      refine wpAnyH_done (by as_aux_lemma => kernel_rfl) ?_ _
      exact hQ g kb c _ _ _ _ _ _ _ _ _ _ _ _ _ _ _ _ _ _ _ _ HNX.out HBX.out
  ·skip
   go_simp
   have hbx := kbelow_box V1 (.cells #[.int .i64 0, .slice none 0 0] 72)
   have HB2 := Lib.hid (HB1.out.trans (hbx.mono HB1.out.size))
   have HLg : Hid (w4.heap.size ≤ V1.heap.size) := Lib.hid HB1.out.size
   have HG : Hid (Cbx (V1.alloc (.cells #[.int .i64 0, .slice none 0 0] 72)) V1.heap.size [.int .i64 0, .slice none 0 0]) := Lib.hid (Cbx.made V1 [.int .i64 0, .slice none 0 0] _)
   clear hbx
   refine hK.out _ _ (by exact HSW.out _ HB2.out) (fun hHeld => ?_)
   clear hK K
   try simp only [Act.put, List.setIfInBounds_toArray, List.set_cons_zero, List.set_cons_succ]
   generalize V1.alloc (.cells #[.int .i64 0, .slice none 0 0] 72) = V2 at HB2 hHeld HG ⊢
   generalize V1.heap.size = g at HLg HG ⊢
   refine wpAnyH_ready (rs := [9, 11]) (by as_aux_lemma => kernel_rfl) (by simp) ?_
   refine AllReadyH.cons rfl (fun K hK => ?_) (AllReadyH.cons rfl (fun K hK => ?_) AllReadyH.nil)
   ·skip
    go_simp
    refine (HLYC.out V2).mono ?_
    rintro e V3 ⟨rfl, hb⟩
    have HB3 := Lib.hid (HB2.out.trans (hb.mono HB2.out.size))
    replace HG := Lib.hid (HG.out.below hb HG.out.lt)
    clear hb
    try go_wp2_with fail
    refine hK.out _ _ (by exact HSW.out _ HB3.out) (fun hHeld => ?_)
    clear hK K
    try simp only [Act.put, List.setIfInBounds_toArray, List.set_cons_zero, List.set_cons_succ]
    refine wpAnyH_take (i := 10) (oi := _) (v := .int .i64 nd) rfl (by as_aux_lemma => kernel_rfl) (by as_aux_lemma => kernel_rfl) (by as_aux_lemma => kernel_rfl) (fun c a w h => hP c a _ _ w h) (Or.inl ⟨by as_aux_lemma => kernel_rfl, fun w' hSw => ?_⟩) (by assumption) ?_
    ·((try dsimp only at hSw); go_simp; try with_reducible rfl)
    try simp only [Act.put, List.setIfInBounds_toArray, List.set_cons_zero, List.set_cons_succ]
    refine wpAnyH_ready (rs := [11]) (by as_aux_lemma => kernel_rfl) (by simp) ?_
    refine AllReadyH.cons rfl (fun K hK => ?_) AllReadyH.nil
    ·skip
     go_simp
     have hbx := kbelow_box V3 (.cells #[] 4)
     have HB4 := Lib.hid (HB3.out.trans (hbx.mono HB3.out.size))
     have HLeb : Hid (w4.heap.size ≤ V3.heap.size) := Lib.hid HB3.out.size
     have HNge : Hid (g ≠ V3.heap.size) := Lib.hid (Nat.ne_of_lt HG.out.lt)
     replace HG := Lib.hid (HG.out.below hbx HG.out.lt)
     have HE : Hid (V3.heap.size < (V3.alloc (.cells #[] 4)).heap.size) := Lib.hid (by simp)
     clear hbx
     refine hK.out _ _ (by exact HSW.out _ HB4.out) (fun hHeld => ?_)
     clear hK K
     try simp only [Act.put, List.setIfInBounds_toArray, List.set_cons_zero, List.set_cons_succ]
     generalize V3.alloc (.cells #[] 4) = V4 at HB4 hHeld HE HG ⊢
     generalize V3.heap.size = eb at HLeb HNge HE ⊢
     refine wpAnyH_ready (rs := [17]) (by as_aux_lemma => kernel_rfl) (by simp) ?_
     refine AllReadyH.cons rfl (fun K hK => ?_) AllReadyH.nil
     ·skip
      obtain ⟨kb, c, V5, hrun, hb, hkb, hka⟩ := app_kept V4 eb aj L cj kj hL40 (HKC.out V4 HB4.out) HE.out
      refine step_app_bl _ _ rfl (.tmp 150) (.tmp 155) rfl rfl _ _ _ (by simp [Act.eval]) (by simp [Act.eval]) hrun ?_
      have HB5 := Lib.hid (HB4.out.trans (hb.mono HB4.out.size))
      have HKB := Lib.hid hka
      have HLkb : Hid (w4.heap.size ≤ kb) := Lib.hid (kb_ge hkb HLeb.out HB4.out.size)
      have HNgk : Hid (g ≠ kb) := Lib.hid (kb_ne hkb HNge.out HG.out.lt)
      replace HE := Lib.hid (Nat.lt_of_lt_of_le HE.out hb.size)
      replace HG := Lib.hid (HG.out.below hb HG.out.lt)
      clear hb hkb hka hrun
      refine hK.out _ _ (by exact HSW.out _ HB5.out) (fun hHeld => ?_)
      clear hK K
      try simp only [Act.put, List.setIfInBounds_toArray, List.set_cons_zero, List.set_cons_succ]
      refine wpAnyH_take (i := 18) (oi := _) (v := .agg #[.int .i64 nd, .slice (some ⟨kb, 0, none⟩) L c]) rfl (by as_aux_lemma => kernel_rfl) (by as_aux_lemma => kernel_rfl) (by as_aux_lemma => kernel_rfl) (fun c a w h => hP c a _ _ w h) (Or.inl ⟨by as_aux_lemma => kernel_rfl, fun w' hSw => ?_⟩) (by assumption) ?_
      ·((try dsimp only at hSw); go_simp; try with_reducible rfl)
      try simp only [Act.put, List.setIfInBounds_toArray, List.set_cons_zero, List.set_cons_succ]
      have x0 := HG.out.at 0 rfl
      have x1 := HG.out.at 1 rfl
      have f0 := HG.out.fr 0 rfl
      have f1 := HG.out.fr 1 rfl
      refine wpAnyH_ready (rs := [20]) (by as_aux_lemma => kernel_rfl) (by simp) ?_
      refine AllReadyH.cons rfl (fun K hK => ?_) AllReadyH.nil
      go_simp
      clear x0 x1 f0 f1
      have HNX := Lib.hid (NxAt.made HG.out HKB.out HLg.out HLkb.out HNgk.out nd (c := c))
      have HBX := Lib.hid ((HB5.out.setCell (p := ⟨g, 0, none⟩) HLg.out (.int .i64 nd)).setCell (p := ⟨g, 1, none⟩) HLg.out (.slice (some ⟨kb, 0, none⟩) L c))
      refine hK.out _ _ (by exact HSW.out _ HBX.out) (fun hHeld => ?_)
      clear hK K
      try simp only [Act.put, List.setIfInBounds_toArray, List.set_cons_zero, List.set_cons_succ]
      refine wpAnyH_done (by as_aux_lemma => kernel_rfl) ?_ _
      exact hQ g kb c _ _ _ _ _ _ _ _ _ _ _ _ _ _ _ _ _ _ _ _ HNX.out HBX.out
   ·skip
    go_simp
    have hbx := kbelow_box V2 (.cells #[] 4)
    have HB3 := Lib.hid (HB2.out.trans (hbx.mono HB2.out.size))
    have HLeb : Hid (w4.heap.size ≤ V2.heap.size) := Lib.hid HB2.out.size
    have HNge : Hid (g ≠ V2.heap.size) := Lib.hid (Nat.ne_of_lt HG.out.lt)
    replace HG := Lib.hid (HG.out.below hbx HG.out.lt)
    have HE : Hid (V2.heap.size < (V2.alloc (.cells #[] 4)).heap.size) := Lib.hid (by simp)
    clear hbx
    refine hK.out _ _ (by exact HSW.out _ HB3.out) (fun hHeld => ?_)
    clear hK K
    try simp only [Act.put, List.setIfInBounds_toArray, List.set_cons_zero, List.set_cons_succ]
    generalize V2.alloc (.cells #[] 4) = V3 at HB3 hHeld HE HG ⊢
    generalize V2.heap.size = eb at HLeb HNge HE ⊢
    refine wpAnyH_ready (rs := [9]) (by as_aux_lemma => kernel_rfl) (by simp) ?_
    refine AllReadyH.cons rfl (fun K hK => ?_) AllReadyH.nil
    ·skip
     go_simp
     refine (HLYC.out V3).mono ?_
     rintro e V4 ⟨rfl, hb⟩
     have HB4 := Lib.hid (HB3.out.trans (hb.mono HB3.out.size))
     replace HE := Lib.hid (Nat.lt_of_lt_of_le HE.out hb.size)
     replace HG := Lib.hid (HG.out.below hb HG.out.lt)
     clear hb
     try go_wp2_with fail
     refine hK.out _ _ (by exact HSW.out _ HB4.out) (fun hHeld => ?_)
     clear hK K
     try simp only [Act.put, List.setIfInBounds_toArray, List.set_cons_zero, List.set_cons_succ]
     refine wpAnyH_take (i := 10) (oi := _) (v := .int .i64 nd) rfl (by as_aux_lemma => kernel_rfl) (by as_aux_lemma => kernel_rfl) (by as_aux_lemma => kernel_rfl) (fun c a w h => hP c a _ _ w h) (Or.inl ⟨by as_aux_lemma => kernel_rfl, fun w' hSw => ?_⟩) (by assumption) ?_
     ·((try dsimp only at hSw); go_simp; try with_reducible rfl)
     try simp only [Act.put, List.setIfInBounds_toArray, List.set_cons_zero, List.set_cons_succ]
     refine wpAnyH_ready (rs := [17]) (by as_aux_lemma => kernel_rfl) (by simp) ?_
     refine AllReadyH.cons rfl (fun K hK => ?_) AllReadyH.nil
     ·skip
      obtain ⟨kb, c, V5, hrun, hb, hkb, hka⟩ := app_kept V4 eb aj L cj kj hL40 (HKC.out V4 HB4.out) HE.out
      refine step_app_bl _ _ rfl (.tmp 150) (.tmp 155) rfl rfl _ _ _ (by simp [Act.eval]) (by simp [Act.eval]) hrun ?_
      have HB5 := Lib.hid (HB4.out.trans (hb.mono HB4.out.size))
      have HKB := Lib.hid hka
      have HLkb : Hid (w4.heap.size ≤ kb) := Lib.hid (kb_ge hkb HLeb.out HB4.out.size)
      have HNgk : Hid (g ≠ kb) := Lib.hid (kb_ne hkb HNge.out HG.out.lt)
      replace HE := Lib.hid (Nat.lt_of_lt_of_le HE.out hb.size)
      replace HG := Lib.hid (HG.out.below hb HG.out.lt)
      clear hb hkb hka hrun
      refine hK.out _ _ (by exact HSW.out _ HB5.out) (fun hHeld => ?_)
      clear hK K
      try simp only [Act.put, List.setIfInBounds_toArray, List.set_cons_zero, List.set_cons_succ]
      refine wpAnyH_take (i := 18) (oi := _) (v := .agg #[.int .i64 nd, .slice (some ⟨kb, 0, none⟩) L c]) rfl (by as_aux_lemma => kernel_rfl) (by as_aux_lemma => kernel_rfl) (by as_aux_lemma => kernel_rfl) (fun c a w h => hP c a _ _ w h) (Or.inl ⟨by as_aux_lemma => kernel_rfl, fun w' hSw => ?_⟩) (by assumption) ?_
      ·((try dsimp only at hSw); go_simp; try with_reducible rfl)
      try simp only [Act.put, List.setIfInBounds_toArray, List.set_cons_zero, List.set_cons_succ]
      have x0 := HG.out.at 0 rfl
      have x1 := HG.out.at 1 rfl
      have f0 := HG.out.fr 0 rfl
      have f1 := HG.out.fr 1 rfl
      refine wpAnyH_ready (rs := [20]) (by as_aux_lemma => kernel_rfl) (by simp) ?_
      refine AllReadyH.cons rfl (fun K hK => ?_) AllReadyH.nil
      go_simp
      clear x0 x1 f0 f1
      have HNX := Lib.hid (NxAt.made HG.out HKB.out HLg.out HLkb.out HNgk.out nd (c := c))
      have HBX := Lib.hid ((HB5.out.setCell (p := ⟨g, 0, none⟩) HLg.out (.int .i64 nd)).setCell (p := ⟨g, 1, none⟩) HLg.out (.slice (some ⟨kb, 0, none⟩) L c))
      refine hK.out _ _ (by exact HSW.out _ HBX.out) (fun hHeld => ?_)
      clear hK K
      try simp only [Act.put, List.setIfInBounds_toArray, List.set_cons_zero, List.set_cons_succ]
      refine wpAnyH_done (by as_aux_lemma => kernel_rfl) ?_ _
      exact hQ g kb c _ _ _ _ _ _ _ _ _ _ _ _ _ _ _ _ _ _ _ _ HNX.out HBX.out
 ·skip
  go_simp
  have hbx := kbelow_box V0 (.cells #[] 4)
  have HB1 := Lib.hid (HB0.out.trans (hbx.mono HB0.out.size))
  have HLeb : Hid (w4.heap.size ≤ V0.heap.size) := Lib.hid HB0.out.size
  have HE : Hid (V0.heap.size < (V0.alloc (.cells #[] 4)).heap.size) := Lib.hid (by simp)
  clear hbx
  refine hK.out _ _ (by exact HSW.out _ HB1.out) (fun hHeld => ?_)
  clear hK K
  try simp only [Act.put, List.setIfInBounds_toArray, List.set_cons_zero, List.set_cons_succ]
  generalize V0.alloc (.cells #[] 4) = V1 at HB1 hHeld HE ⊢
  generalize V0.heap.size = eb at HLeb HE ⊢
  refine wpAnyH_ready (rs := [6, 19]) (by as_aux_lemma => kernel_rfl) (by simp) ?_
  refine AllReadyH.cons rfl (fun K hK => ?_) (AllReadyH.cons rfl (fun K hK => ?_) AllReadyH.nil)
  ·skip
   go_simp
   refine (HTKC.out V1).mono ?_
   rintro e V2 ⟨rfl, hb⟩
   have HB2 := Lib.hid (HB1.out.trans (hb.mono HB1.out.size))
   replace HE := Lib.hid (Nat.lt_of_lt_of_le HE.out hb.size)
   clear hb
   try go_wp2_with fail
   refine hK.out _ _ (by exact HSW.out _ HB2.out) (fun hHeld => ?_)
   clear hK K
   try simp only [Act.put, List.setIfInBounds_toArray, List.set_cons_zero, List.set_cons_succ]
   refine wpAnyH_take (i := 7) (oi := _) (v := .int .i64 md) rfl (by as_aux_lemma => kernel_rfl) (by as_aux_lemma => kernel_rfl) (by as_aux_lemma => kernel_rfl) (fun c a w h => hP c a _ _ w h) (Or.inl ⟨by as_aux_lemma => kernel_rfl, fun w' hSw => ?_⟩) (by assumption) ?_
   ·((try dsimp only at hSw); go_simp; try with_reducible rfl)
   try simp only [Act.put, List.setIfInBounds_toArray, List.set_cons_zero, List.set_cons_succ]
   refine wpAnyH_ready (rs := [9, 19]) (by as_aux_lemma => kernel_rfl) (by simp) ?_
   refine AllReadyH.cons rfl (fun K hK => ?_) (AllReadyH.cons rfl (fun K hK => ?_) AllReadyH.nil)
   ·skip
    go_simp
    refine (HLYC.out V2).mono ?_
    rintro e V3 ⟨rfl, hb⟩
    have HB3 := Lib.hid (HB2.out.trans (hb.mono HB2.out.size))
    replace HE := Lib.hid (Nat.lt_of_lt_of_le HE.out hb.size)
    clear hb
    try go_wp2_with fail
    refine hK.out _ _ (by exact HSW.out _ HB3.out) (fun hHeld => ?_)
    clear hK K
    try simp only [Act.put, List.setIfInBounds_toArray, List.set_cons_zero, List.set_cons_succ]
    refine wpAnyH_take (i := 10) (oi := _) (v := .int .i64 nd) rfl (by as_aux_lemma => kernel_rfl) (by as_aux_lemma => kernel_rfl) (by as_aux_lemma => kernel_rfl) (fun c a w h => hP c a _ _ w h) (Or.inl ⟨by as_aux_lemma => kernel_rfl, fun w' hSw => ?_⟩) (by assumption) ?_
    ·((try dsimp only at hSw); go_simp; try with_reducible rfl)
    try simp only [Act.put, List.setIfInBounds_toArray, List.set_cons_zero, List.set_cons_succ]
    refine wpAnyH_ready (rs := [17, 19]) (by as_aux_lemma => kernel_rfl) (by simp) ?_
    refine AllReadyH.cons rfl (fun K hK => ?_) (AllReadyH.cons rfl (fun K hK => ?_) AllReadyH.nil)
    ·skip
     obtain ⟨kb, c, V4, hrun, hb, hkb, hka⟩ := app_kept V3 eb aj L cj kj hL40 (HKC.out V3 HB3.out) HE.out
     refine step_app_bl _ _ rfl (.tmp 150) (.tmp 155) rfl rfl _ _ _ (by simp [Act.eval]) (by simp [Act.eval]) hrun ?_
     have HB4 := Lib.hid (HB3.out.trans (hb.mono HB3.out.size))
     have HKB := Lib.hid hka
     have HLkb : Hid (w4.heap.size ≤ kb) := Lib.hid (kb_ge hkb HLeb.out HB3.out.size)
     replace HE := Lib.hid (Nat.lt_of_lt_of_le HE.out hb.size)
     clear hb hkb hka hrun
     refine hK.out _ _ (by exact HSW.out _ HB4.out) (fun hHeld => ?_)
     clear hK K
     try simp only [Act.put, List.setIfInBounds_toArray, List.set_cons_zero, List.set_cons_succ]
     refine wpAnyH_take (i := 18) (oi := _) (v := .agg #[.int .i64 nd, .slice (some ⟨kb, 0, none⟩) L c]) rfl (by as_aux_lemma => kernel_rfl) (by as_aux_lemma => kernel_rfl) (by as_aux_lemma => kernel_rfl) (fun c a w h => hP c a _ _ w h) (Or.inl ⟨by as_aux_lemma => kernel_rfl, fun w' hSw => ?_⟩) (by assumption) ?_
     ·((try dsimp only at hSw); go_simp; try with_reducible rfl)
     try simp only [Act.put, List.setIfInBounds_toArray, List.set_cons_zero, List.set_cons_succ]
     refine wpAnyH_ready (rs := [19]) (by as_aux_lemma => kernel_rfl) (by simp) ?_
     refine AllReadyH.cons rfl (fun K hK => ?_) AllReadyH.nil
     ·skip
      go_simp
      have hbx := kbelow_box V4 (.cells #[.int .i64 0, .slice none 0 0] 72)
      have HB5 := Lib.hid (HB4.out.trans (hbx.mono HB4.out.size))
      have HLg : Hid (w4.heap.size ≤ V4.heap.size) := Lib.hid HB4.out.size
      have HNge : Hid (V4.heap.size ≠ eb) := Lib.hid (Nat.ne_of_gt HE.out)
      have HNgk : Hid (V4.heap.size ≠ kb) := Lib.hid (Nat.ne_of_gt HKB.out.1)
      replace HE := Lib.hid (Nat.lt_of_lt_of_le HE.out hbx.size)
      replace HKB := Lib.hid (HKB.out.below hbx)
      have HG : Hid (Cbx (V4.alloc (.cells #[.int .i64 0, .slice none 0 0] 72)) V4.heap.size [.int .i64 0, .slice none 0 0]) := Lib.hid (Cbx.made V4 [.int .i64 0, .slice none 0 0] _)
      clear hbx
      refine hK.out _ _ (by exact HSW.out _ HB5.out) (fun hHeld => ?_)
      clear hK K
      try simp only [Act.put, List.setIfInBounds_toArray, List.set_cons_zero, List.set_cons_succ]
      generalize V4.alloc (.cells #[.int .i64 0, .slice none 0 0] 72) = V5 at HB5 hHeld HE HG HKB ⊢
      generalize V4.heap.size = g at HLg HNge HNgk HG ⊢
      have x0 := HG.out.at 0 rfl
      have x1 := HG.out.at 1 rfl
      have f0 := HG.out.fr 0 rfl
      have f1 := HG.out.fr 1 rfl
      refine wpAnyH_ready (rs := [20]) (by as_aux_lemma => kernel_rfl) (by simp) ?_
      refine AllReadyH.cons rfl (fun K hK => ?_) AllReadyH.nil
      go_simp
      clear x0 x1 f0 f1
      have HNX := Lib.hid (NxAt.made HG.out HKB.out HLg.out HLkb.out HNgk.out nd (c := c))
      have HBX := Lib.hid ((HB5.out.setCell (p := ⟨g, 0, none⟩) HLg.out (.int .i64 nd)).setCell (p := ⟨g, 1, none⟩) HLg.out (.slice (some ⟨kb, 0, none⟩) L c))
      refine hK.out _ _ (by exact HSW.out _ HBX.out) (fun hHeld => ?_)
      clear hK K
      try simp only [Act.put, List.setIfInBounds_toArray, List.set_cons_zero, List.set_cons_succ]
      refine wpAnyH_done (by as_aux_lemma => kernel_rfl) ?_ _
      exact hQ g kb c _ _ _ _ _ _ _ _ _ _ _ _ _ _ _ _ _ _ _ _ HNX.out HBX.out
    ·skip
     go_simp
     have hbx := kbelow_box V3 (.cells #[.int .i64 0, .slice none 0 0] 72)
     have HB4 := Lib.hid (HB3.out.trans (hbx.mono HB3.out.size))
     have HLg : Hid (w4.heap.size ≤ V3.heap.size) := Lib.hid HB3.out.size
     have HNge : Hid (V3.heap.size ≠ eb) := Lib.hid (Nat.ne_of_gt HE.out)
     replace HE := Lib.hid (Nat.lt_of_lt_of_le HE.out hbx.size)
     have HG : Hid (Cbx (V3.alloc (.cells #[.int .i64 0, .slice none 0 0] 72)) V3.heap.size [.int .i64 0, .slice none 0 0]) := Lib.hid (Cbx.made V3 [.int .i64 0, .slice none 0 0] _)
     clear hbx
     refine hK.out _ _ (by exact HSW.out _ HB4.out) (fun hHeld => ?_)
     clear hK K
     try simp only [Act.put, List.setIfInBounds_toArray, List.set_cons_zero, List.set_cons_succ]
     generalize V3.alloc (.cells #[.int .i64 0, .slice none 0 0] 72) = V4 at HB4 hHeld HE HG ⊢
     generalize V3.heap.size = g at HLg HNge HG ⊢
     refine wpAnyH_ready (rs := [17]) (by as_aux_lemma => kernel_rfl) (by simp) ?_
     refine AllReadyH.cons rfl (fun K hK => ?_) AllReadyH.nil
     ·skip
      obtain ⟨kb, c, V5, hrun, hb, hkb, hka⟩ := app_kept V4 eb aj L cj kj hL40 (HKC.out V4 HB4.out) HE.out
      refine step_app_bl _ _ rfl (.tmp 150) (.tmp 155) rfl rfl _ _ _ (by simp [Act.eval]) (by simp [Act.eval]) hrun ?_
      have HB5 := Lib.hid (HB4.out.trans (hb.mono HB4.out.size))
      have HKB := Lib.hid hka
      have HLkb : Hid (w4.heap.size ≤ kb) := Lib.hid (kb_ge hkb HLeb.out HB4.out.size)
      have HNgk : Hid (g ≠ kb) := Lib.hid (kb_ne hkb HNge.out HG.out.lt)
      replace HE := Lib.hid (Nat.lt_of_lt_of_le HE.out hb.size)
      replace HG := Lib.hid (HG.out.below hb HG.out.lt)
      clear hb hkb hka hrun
      refine hK.out _ _ (by exact HSW.out _ HB5.out) (fun hHeld => ?_)
      clear hK K
      try simp only [Act.put, List.setIfInBounds_toArray, List.set_cons_zero, List.set_cons_succ]
      refine wpAnyH_take (i := 18) (oi := _) (v := .agg #[.int .i64 nd, .slice (some ⟨kb, 0, none⟩) L c]) rfl (by as_aux_lemma => kernel_rfl) (by as_aux_lemma => kernel_rfl) (by as_aux_lemma => kernel_rfl) (fun c a w h => hP c a _ _ w h) (Or.inl ⟨by as_aux_lemma => kernel_rfl, fun w' hSw => ?_⟩) (by assumption) ?_
      ·((try dsimp only at hSw); go_simp; try with_reducible rfl)
      try simp only [Act.put, List.setIfInBounds_toArray, List.set_cons_zero, List.set_cons_succ]
      have x0 := HG.out.at 0 rfl
      have x1 := HG.out.at 1 rfl
      have f0 := HG.out.fr 0 rfl
      have f1 := HG.out.fr 1 rfl
      refine wpAnyH_ready (rs := [20]) (by as_aux_lemma => kernel_rfl) (by simp) ?_
      refine AllReadyH.cons rfl (fun K hK => ?_) AllReadyH.nil
      go_simp
      clear x0 x1 f0 f1
      have HNX := Lib.hid (NxAt.made HG.out HKB.out HLg.out HLkb.out HNgk.out nd (c := c))
      have HBX := Lib.hid ((HB5.out.setCell (p := ⟨g, 0, none⟩) HLg.out (.int .i64 nd)).setCell (p := ⟨g, 1, none⟩) HLg.out (.slice (some ⟨kb, 0, none⟩) L c))
      refine hK.out _ _ (by exact HSW.out _ HBX.out) (fun hHeld => ?_)
      clear hK K
      try simp only [Act.put, List.setIfInBounds_toArray, List.set_cons_zero, List.set_cons_succ]
      refine wpAnyH_done (by as_aux_lemma => kernel_rfl) ?_ _
      exact hQ g kb c _ _ _ _ _ _ _ _ _ _ _ _ _ _ _ _ _ _ _ _ HNX.out HBX.out
   ·skip
    go_simp
    have hbx := kbelow_box V2 (.cells #[.int .i64 0, .slice none 0 0] 72)
    have HB3 := Lib.hid (HB2.out.trans (hbx.mono HB2.out.size))
    have HLg : Hid (w4.heap.size ≤ V2.heap.size) := Lib.hid HB2.out.size
    have HNge : Hid (V2.heap.size ≠ eb) := Lib.hid (Nat.ne_of_gt HE.out)
    replace HE := Lib.hid (Nat.lt_of_lt_of_le HE.out hbx.size)
    have HG : Hid (Cbx (V2.alloc (.cells #[.int .i64 0, .slice none 0 0] 72)) V2.heap.size [.int .i64 0, .slice none 0 0]) := Lib.hid (Cbx.made V2 [.int .i64 0, .slice none 0 0] _)
    clear hbx
    refine hK.out _ _ (by exact HSW.out _ HB3.out) (fun hHeld => ?_)
    clear hK K
    try simp only [Act.put, List.setIfInBounds_toArray, List.set_cons_zero, List.set_cons_succ]
    generalize V2.alloc (.cells #[.int .i64 0, .slice none 0 0] 72) = V3 at HB3 hHeld HE HG ⊢
    generalize V2.heap.size = g at HLg HNge HG ⊢
    refine wpAnyH_ready (rs := [9]) (by as_aux_lemma => kernel_rfl) (by simp) ?_
    refine AllReadyH.cons rfl (fun K hK => ?_) AllReadyH.nil
    ·skip
     go_simp
     refine (HLYC.out V3).mono ?_
     rintro e V4 ⟨rfl, hb⟩
     have HB4 := Lib.hid (HB3.out.trans (hb.mono HB3.out.size))
     replace HE := Lib.hid (Nat.lt_of_lt_of_le HE.out hb.size)
     replace HG := Lib.hid (HG.out.below hb HG.out.lt)
     clear hb
     try go_wp2_with fail
     refine hK.out _ _ (by exact HSW.out _ HB4.out) (fun hHeld => ?_)
     clear hK K
     try simp only [Act.put, List.setIfInBounds_toArray, List.set_cons_zero, List.set_cons_succ]
     refine wpAnyH_take (i := 10) (oi := _) (v := .int .i64 nd) rfl (by as_aux_lemma => kernel_rfl) (by as_aux_lemma => kernel_rfl) (by as_aux_lemma => kernel_rfl) (fun c a w h => hP c a _ _ w h) (Or.inl ⟨by as_aux_lemma => kernel_rfl, fun w' hSw => ?_⟩) (by assumption) ?_
     ·((try dsimp only at hSw); go_simp; try with_reducible rfl)
     try simp only [Act.put, List.setIfInBounds_toArray, List.set_cons_zero, List.set_cons_succ]
     refine wpAnyH_ready (rs := [17]) (by as_aux_lemma => kernel_rfl) (by simp) ?_
     refine AllReadyH.cons rfl (fun K hK => ?_) AllReadyH.nil
     ·skip
      obtain ⟨kb, c, V5, hrun, hb, hkb, hka⟩ := app_kept V4 eb aj L cj kj hL40 (HKC.out V4 HB4.out) HE.out
      refine step_app_bl _ _ rfl (.tmp 150) (.tmp 155) rfl rfl _ _ _ (by simp [Act.eval]) (by simp [Act.eval]) hrun ?_
      have HB5 := Lib.hid (HB4.out.trans (hb.mono HB4.out.size))
      have HKB := Lib.hid hka
      have HLkb : Hid (w4.heap.size ≤ kb) := Lib.hid (kb_ge hkb HLeb.out HB4.out.size)
      have HNgk : Hid (g ≠ kb) := Lib.hid (kb_ne hkb HNge.out HG.out.lt)
      replace HE := Lib.hid (Nat.lt_of_lt_of_le HE.out hb.size)
      replace HG := Lib.hid (HG.out.below hb HG.out.lt)
      clear hb hkb hka hrun
      refine hK.out _ _ (by exact HSW.out _ HB5.out) (fun hHeld => ?_)
      clear hK K
      try simp only [Act.put, List.setIfInBounds_toArray, List.set_cons_zero, List.set_cons_succ]
      refine wpAnyH_take (i := 18) (oi := _) (v := .agg #[.int .i64 nd, .slice (some ⟨kb, 0, none⟩) L c]) rfl (by as_aux_lemma => kernel_rfl) (by as_aux_lemma => kernel_rfl) (by as_aux_lemma => kernel_rfl) (fun c a w h => hP c a _ _ w h) (Or.inl ⟨by as_aux_lemma => kernel_rfl, fun w' hSw => ?_⟩) (by assumption) ?_
      ·((try dsimp only at hSw); go_simp; try with_reducible rfl)
      try simp only [Act.put, List.setIfInBounds_toArray, List.set_cons_zero, List.set_cons_succ]
      have x0 := HG.out.at 0 rfl
      have x1 := HG.out.at 1 rfl
      have f0 := HG.out.fr 0 rfl
      have f1 := HG.out.fr 1 rfl
      refine wpAnyH_ready (rs := [20]) (by as_aux_lemma => kernel_rfl) (by simp) ?_
      refine AllReadyH.cons rfl (fun K hK => ?_) AllReadyH.nil
      go_simp
      clear x0 x1 f0 f1
      have HNX := Lib.hid (NxAt.made HG.out HKB.out HLg.out HLkb.out HNgk.out nd (c := c))
      have HBX := Lib.hid ((HB5.out.setCell (p := ⟨g, 0, none⟩) HLg.out (.int .i64 nd)).setCell (p := ⟨g, 1, none⟩) HLg.out (.slice (some ⟨kb, 0, none⟩) L c))
      refine hK.out _ _ (by exact HSW.out _ HBX.out) (fun hHeld => ?_)
      clear hK K
      try simp only [Act.put, List.setIfInBounds_toArray, List.set_cons_zero, List.set_cons_succ]
      refine wpAnyH_done (by as_aux_lemma => kernel_rfl) ?_ _
      exact hQ g kb c _ _ _ _ _ _ _ _ _ _ _ _ _ _ _ _ _ _ _ _ HNX.out HBX.out
  ·skip
   go_simp
   have hbx := kbelow_box V1 (.cells #[.int .i64 0, .slice none 0 0] 72)
   have HB2 := Lib.hid (HB1.out.trans (hbx.mono HB1.out.size))
   have HLg : Hid (w4.heap.size ≤ V1.heap.size) := Lib.hid HB1.out.size
   have HNge : Hid (V1.heap.size ≠ eb) := Lib.hid (Nat.ne_of_gt HE.out)
   replace HE := Lib.hid (Nat.lt_of_lt_of_le HE.out hbx.size)
   have HG : Hid (Cbx (V1.alloc (.cells #[.int .i64 0, .slice none 0 0] 72)) V1.heap.size [.int .i64 0, .slice none 0 0]) := Lib.hid (Cbx.made V1 [.int .i64 0, .slice none 0 0] _)
   clear hbx
   refine hK.out _ _ (by exact HSW.out _ HB2.out) (fun hHeld => ?_)
   clear hK K
   try simp only [Act.put, List.setIfInBounds_toArray, List.set_cons_zero, List.set_cons_succ]
   generalize V1.alloc (.cells #[.int .i64 0, .slice none 0 0] 72) = V2 at HB2 hHeld HE HG ⊢
   generalize V1.heap.size = g at HLg HNge HG ⊢
   refine wpAnyH_ready (rs := [6]) (by as_aux_lemma => kernel_rfl) (by simp) ?_
   refine AllReadyH.cons rfl (fun K hK => ?_) AllReadyH.nil
   ·skip
    go_simp
    refine (HTKC.out V2).mono ?_
    rintro e V3 ⟨rfl, hb⟩
    have HB3 := Lib.hid (HB2.out.trans (hb.mono HB2.out.size))
    replace HE := Lib.hid (Nat.lt_of_lt_of_le HE.out hb.size)
    replace HG := Lib.hid (HG.out.below hb HG.out.lt)
    clear hb
    try go_wp2_with fail
    refine hK.out _ _ (by exact HSW.out _ HB3.out) (fun hHeld => ?_)
    clear hK K
    try simp only [Act.put, List.setIfInBounds_toArray, List.set_cons_zero, List.set_cons_succ]
    refine wpAnyH_take (i := 7) (oi := _) (v := .int .i64 md) rfl (by as_aux_lemma => kernel_rfl) (by as_aux_lemma => kernel_rfl) (by as_aux_lemma => kernel_rfl) (fun c a w h => hP c a _ _ w h) (Or.inl ⟨by as_aux_lemma => kernel_rfl, fun w' hSw => ?_⟩) (by assumption) ?_
    ·((try dsimp only at hSw); go_simp; try with_reducible rfl)
    try simp only [Act.put, List.setIfInBounds_toArray, List.set_cons_zero, List.set_cons_succ]
    refine wpAnyH_ready (rs := [9]) (by as_aux_lemma => kernel_rfl) (by simp) ?_
    refine AllReadyH.cons rfl (fun K hK => ?_) AllReadyH.nil
    ·skip
     go_simp
     refine (HLYC.out V3).mono ?_
     rintro e V4 ⟨rfl, hb⟩
     have HB4 := Lib.hid (HB3.out.trans (hb.mono HB3.out.size))
     replace HE := Lib.hid (Nat.lt_of_lt_of_le HE.out hb.size)
     replace HG := Lib.hid (HG.out.below hb HG.out.lt)
     clear hb
     try go_wp2_with fail
     refine hK.out _ _ (by exact HSW.out _ HB4.out) (fun hHeld => ?_)
     clear hK K
     try simp only [Act.put, List.setIfInBounds_toArray, List.set_cons_zero, List.set_cons_succ]
     refine wpAnyH_take (i := 10) (oi := _) (v := .int .i64 nd) rfl (by as_aux_lemma => kernel_rfl) (by as_aux_lemma => kernel_rfl) (by as_aux_lemma => kernel_rfl) (fun c a w h => hP c a _ _ w h) (Or.inl ⟨by as_aux_lemma => kernel_rfl, fun w' hSw => ?_⟩) (by assumption) ?_
     ·((try dsimp only at hSw); go_simp; try with_reducible rfl)
     try simp only [Act.put, List.setIfInBounds_toArray, List.set_cons_zero, List.set_cons_succ]
     refine wpAnyH_ready (rs := [17]) (by as_aux_lemma => kernel_rfl) (by simp) ?_
     refine AllReadyH.cons rfl (fun K hK => ?_) AllReadyH.nil
     ·skip
      obtain ⟨kb, c, V5, hrun, hb, hkb, hka⟩ := app_kept V4 eb aj L cj kj hL40 (HKC.out V4 HB4.out) HE.out
      refine step_app_bl _ _ rfl (.tmp 150) (.tmp 155) rfl rfl _ _ _ (by simp [Act.eval]) (by simp [Act.eval]) hrun ?_
      have HB5 := Lib.hid (HB4.out.trans (hb.mono HB4.out.size))
      have HKB := Lib.hid hka
      have HLkb : Hid (w4.heap.size ≤ kb) := Lib.hid (kb_ge hkb HLeb.out HB4.out.size)
      have HNgk : Hid (g ≠ kb) := Lib.hid (kb_ne hkb HNge.out HG.out.lt)
      replace HE := Lib.hid (Nat.lt_of_lt_of_le HE.out hb.size)
      replace HG := Lib.hid (HG.out.below hb HG.out.lt)
      clear hb hkb hka hrun
      refine hK.out _ _ (by exact HSW.out _ HB5.out) (fun hHeld => ?_)
      clear hK K
      try simp only [Act.put, List.setIfInBounds_toArray, List.set_cons_zero, List.set_cons_succ]
      refine wpAnyH_take (i := 18) (oi := _) (v := .agg #[.int .i64 nd, .slice (some ⟨kb, 0, none⟩) L c]) rfl (by as_aux_lemma => kernel_rfl) (by as_aux_lemma => kernel_rfl) (by as_aux_lemma => kernel_rfl) (fun c a w h => hP c a _ _ w h) (Or.inl ⟨by as_aux_lemma => kernel_rfl, fun w' hSw => ?_⟩) (by assumption) ?_
      ·((try dsimp only at hSw); go_simp; try with_reducible rfl)
      try simp only [Act.put, List.setIfInBounds_toArray, List.set_cons_zero, List.set_cons_succ]
      have x0 := HG.out.at 0 rfl
      have x1 := HG.out.at 1 rfl
      have f0 := HG.out.fr 0 rfl
      have f1 := HG.out.fr 1 rfl
      refine wpAnyH_ready (rs := [20]) (by as_aux_lemma => kernel_rfl) (by simp) ?_
      refine AllReadyH.cons rfl (fun K hK => ?_) AllReadyH.nil
      go_simp
      clear x0 x1 f0 f1
      have HNX := Lib.hid (NxAt.made HG.out HKB.out HLg.out HLkb.out HNgk.out nd (c := c))
      have HBX := Lib.hid ((HB5.out.setCell (p := ⟨g, 0, none⟩) HLg.out (.int .i64 nd)).setCell (p := ⟨g, 1, none⟩) HLg.out (.slice (some ⟨kb, 0, none⟩) L c))
      refine hK.out _ _ (by exact HSW.out _ HBX.out) (fun hHeld => ?_)
      clear hK K
      try simp only [Act.put, List.setIfInBounds_toArray, List.set_cons_zero, List.set_cons_succ]
      refine wpAnyH_done (by as_aux_lemma => kernel_rfl) ?_ _
      exact hQ g kb c _ _ _ _ _ _ _ _ _ _ _ _ _ _ _ _ _ _ _ _ HNX.out HBX.out
 ·skip
  go_simp
  have hbx := kbelow_box V0 (.cells #[.int .i64 0, .slice none 0 0] 72)
  have HB1 := Lib.hid (HB0.out.trans (hbx.mono HB0.out.size))
  have HLg : Hid (w4.heap.size ≤ V0.heap.size) := Lib.hid HB0.out.size
  have HG : Hid (Cbx (V0.alloc (.cells #[.int .i64 0, .slice none 0 0] 72)) V0.heap.size [.int .i64 0, .slice none 0 0]) := Lib.hid (Cbx.made V0 [.int .i64 0, .slice none 0 0] _)
  clear hbx
  refine hK.out _ _ (by exact HSW.out _ HB1.out) (fun hHeld => ?_)
  clear hK K
  try simp only [Act.put, List.setIfInBounds_toArray, List.set_cons_zero, List.set_cons_succ]
  generalize V0.alloc (.cells #[.int .i64 0, .slice none 0 0] 72) = V1 at HB1 hHeld HG ⊢
  generalize V0.heap.size = g at HLg HG ⊢
  refine wpAnyH_ready (rs := [6, 11]) (by as_aux_lemma => kernel_rfl) (by simp) ?_
  refine AllReadyH.cons rfl (fun K hK => ?_) (AllReadyH.cons rfl (fun K hK => ?_) AllReadyH.nil)
  ·skip
   go_simp
   refine (HTKC.out V1).mono ?_
   rintro e V2 ⟨rfl, hb⟩
   have HB2 := Lib.hid (HB1.out.trans (hb.mono HB1.out.size))
   replace HG := Lib.hid (HG.out.below hb HG.out.lt)
   clear hb
   try go_wp2_with fail
   refine hK.out _ _ (by exact HSW.out _ HB2.out) (fun hHeld => ?_)
   clear hK K
   try simp only [Act.put, List.setIfInBounds_toArray, List.set_cons_zero, List.set_cons_succ]
   refine wpAnyH_take (i := 7) (oi := _) (v := .int .i64 md) rfl (by as_aux_lemma => kernel_rfl) (by as_aux_lemma => kernel_rfl) (by as_aux_lemma => kernel_rfl) (fun c a w h => hP c a _ _ w h) (Or.inl ⟨by as_aux_lemma => kernel_rfl, fun w' hSw => ?_⟩) (by assumption) ?_
   ·((try dsimp only at hSw); go_simp; try with_reducible rfl)
   try simp only [Act.put, List.setIfInBounds_toArray, List.set_cons_zero, List.set_cons_succ]
   refine wpAnyH_ready (rs := [9, 11]) (by as_aux_lemma => kernel_rfl) (by simp) ?_
   refine AllReadyH.cons rfl (fun K hK => ?_) (AllReadyH.cons rfl (fun K hK => ?_) AllReadyH.nil)
   ·skip
    go_simp
    refine (HLYC.out V2).mono ?_
    rintro e V3 ⟨rfl, hb⟩
    have HB3 := Lib.hid (HB2.out.trans (hb.mono HB2.out.size))
    replace HG := Lib.hid (HG.out.below hb HG.out.lt)
    clear hb
    try go_wp2_with fail
    refine hK.out _ _ (by exact HSW.out _ HB3.out) (fun hHeld => ?_)
    clear hK K
    try simp only [Act.put, List.setIfInBounds_toArray, List.set_cons_zero, List.set_cons_succ]
    refine wpAnyH_take (i := 10) (oi := _) (v := .int .i64 nd) rfl (by as_aux_lemma => kernel_rfl) (by as_aux_lemma => kernel_rfl) (by as_aux_lemma => kernel_rfl) (fun c a w h => hP c a _ _ w h) (Or.inl ⟨by as_aux_lemma => kernel_rfl, fun w' hSw => ?_⟩) (by assumption) ?_
    ·((try dsimp only at hSw); go_simp; try with_reducible rfl)
    try simp only [Act.put, List.setIfInBounds_toArray, List.set_cons_zero, List.set_cons_succ]
    refine wpAnyH_ready (rs := [11]) (by as_aux_lemma => kernel_rfl) (by simp) ?_
    refine AllReadyH.cons rfl (fun K hK => ?_) AllReadyH.nil
    ·skip
     go_simp
     have hbx := kbelow_box V3 (.cells #[] 4)
     have HB4 := Lib.hid (HB3.out.trans (hbx.mono HB3.out.size))
     have HLeb : Hid (w4.heap.size ≤ V3.heap.size) := Lib.hid HB3.out.size
     have HNge : Hid (g ≠ V3.heap.size) := Lib.hid (Nat.ne_of_lt HG.out.lt)
     replace HG := Lib.hid (HG.out.below hbx HG.out.lt)
     have HE : Hid (V3.heap.size < (V3.alloc (.cells #[] 4)).heap.size) := Lib.hid (by simp)
     clear hbx
     refine hK.out _ _ (by exact HSW.out _ HB4.out) (fun hHeld => ?_)
     clear hK K
     try simp only [Act.put, List.setIfInBounds_toArray, List.set_cons_zero, List.set_cons_succ]
     generalize V3.alloc (.cells #[] 4) = V4 at HB4 hHeld HE HG ⊢
     generalize V3.heap.size = eb at HLeb HNge HE ⊢
     refine wpAnyH_ready (rs := [17]) (by as_aux_lemma => kernel_rfl) (by simp) ?_
     refine AllReadyH.cons rfl (fun K hK => ?_) AllReadyH.nil
     ·skip
      obtain ⟨kb, c, V5, hrun, hb, hkb, hka⟩ := app_kept V4 eb aj L cj kj hL40 (HKC.out V4 HB4.out) HE.out
      refine step_app_bl _ _ rfl (.tmp 150) (.tmp 155) rfl rfl _ _ _ (by simp [Act.eval]) (by simp [Act.eval]) hrun ?_
      have HB5 := Lib.hid (HB4.out.trans (hb.mono HB4.out.size))
      have HKB := Lib.hid hka
      have HLkb : Hid (w4.heap.size ≤ kb) := Lib.hid (kb_ge hkb HLeb.out HB4.out.size)
      have HNgk : Hid (g ≠ kb) := Lib.hid (kb_ne hkb HNge.out HG.out.lt)
      replace HE := Lib.hid (Nat.lt_of_lt_of_le HE.out hb.size)
      replace HG := Lib.hid (HG.out.below hb HG.out.lt)
      clear hb hkb hka hrun
      refine hK.out _ _ (by exact HSW.out _ HB5.out) (fun hHeld => ?_)
      clear hK K
      try simp only [Act.put, List.setIfInBounds_toArray, List.set_cons_zero, List.set_cons_succ]
      refine wpAnyH_take (i := 18) (oi := _) (v := .agg #[.int .i64 nd, .slice (some ⟨kb, 0, none⟩) L c]) rfl (by as_aux_lemma => kernel_rfl) (by as_aux_lemma => kernel_rfl) (by as_aux_lemma => kernel_rfl) (fun c a w h => hP c a _ _ w h) (Or.inl ⟨by as_aux_lemma => kernel_rfl, fun w' hSw => ?_⟩) (by assumption) ?_
      ·((try dsimp only at hSw); go_simp; try with_reducible rfl)
      try simp only [Act.put, List.setIfInBounds_toArray, List.set_cons_zero, List.set_cons_succ]
      have x0 := HG.out.at 0 rfl
      have x1 := HG.out.at 1 rfl
      have f0 := HG.out.fr 0 rfl
      have f1 := HG.out.fr 1 rfl
      refine wpAnyH_ready (rs := [20]) (by as_aux_lemma => kernel_rfl) (by simp) ?_
      refine AllReadyH.cons rfl (fun K hK => ?_) AllReadyH.nil
      go_simp
      clear x0 x1 f0 f1
      have HNX := Lib.hid (NxAt.made HG.out HKB.out HLg.out HLkb.out HNgk.out nd (c := c))
      have HBX := Lib.hid ((HB5.out.setCell (p := ⟨g, 0, none⟩) HLg.out (.int .i64 nd)).setCell (p := ⟨g, 1, none⟩) HLg.out (.slice (some ⟨kb, 0, none⟩) L c))
      refine hK.out _ _ (by exact HSW.out _ HBX.out) (fun hHeld => ?_)
      clear hK K
      try simp only [Act.put, List.setIfInBounds_toArray, List.set_cons_zero, List.set_cons_succ]
      refine wpAnyH_done (by as_aux_lemma => kernel_rfl) ?_ _
      exact hQ g kb c _ _ _ _ _ _ _ _ _ _ _ _ _ _ _ _ _ _ _ _ HNX.out HBX.out
   ·skip
    go_simp
    have hbx := kbelow_box V2 (.cells #[] 4)
    have HB3 := Lib.hid (HB2.out.trans (hbx.mono HB2.out.size))
    have HLeb : Hid (w4.heap.size ≤ V2.heap.size) := Lib.hid HB2.out.size
    have HNge : Hid (g ≠ V2.heap.size) := Lib.hid (Nat.ne_of_lt HG.out.lt)
    replace HG := Lib.hid (HG.out.below hbx HG.out.lt)
    have HE : Hid (V2.heap.size < (V2.alloc (.cells #[] 4)).heap.size) := Lib.hid (by simp)
    clear hbx
    refine hK.out _ _ (by exact HSW.out _ HB3.out) (fun hHeld => ?_)
    clear hK K
    try simp only [Act.put, List.setIfInBounds_toArray, List.set_cons_zero, List.set_cons_succ]
    generalize V2.alloc (.cells #[] 4) = V3 at HB3 hHeld HE HG ⊢
    generalize V2.heap.size = eb at HLeb HNge HE ⊢
    refine wpAnyH_ready (rs := [9]) (by as_aux_lemma => kernel_rfl) (by simp) ?_
    refine AllReadyH.cons rfl (fun K hK => ?_) AllReadyH.nil
    ·skip
     go_simp
     refine (HLYC.out V3).mono ?_
     rintro e V4 ⟨rfl, hb⟩
     have HB4 := Lib.hid (HB3.out.trans (hb.mono HB3.out.size))
     replace HE := Lib.hid (Nat.lt_of_lt_of_le HE.out hb.size)
     replace HG := Lib.hid (HG.out.below hb HG.out.lt)
     clear hb
     try go_wp2_with fail
     refine hK.out _ _ (by exact HSW.out _ HB4.out) (fun hHeld => ?_)
     clear hK K
     try simp only [Act.put, List.setIfInBounds_toArray, List.set_cons_zero, List.set_cons_succ]
     refine wpAnyH_take (i := 10) (oi := _) (v := .int .i64 nd) rfl (by as_aux_lemma => kernel_rfl) (by as_aux_lemma => kernel_rfl) (by as_aux_lemma => kernel_rfl) (fun c a w h => hP c a _ _ w h) (Or.inl ⟨by as_aux_lemma => kernel_rfl, fun w' hSw => ?_⟩) (by assumption) ?_
     ·((try dsimp only at hSw); go_simp; try with_reducible rfl)
     try simp only [Act.put, List.setIfInBounds_toArray, List.set_cons_zero, List.set_cons_succ]
     refine wpAnyH_ready (rs := [17]) (by as_aux_lemma => kernel_rfl) (by simp) ?_
     refine AllReadyH.cons rfl (fun K hK => ?_) AllReadyH.nil
     ·skip
      obtain ⟨kb, c, V5, hrun, hb, hkb, hka⟩ := app_kept V4 eb aj L cj kj hL40 (HKC.out V4 HB4.out) HE.out
      refine step_app_bl _ _ rfl (.tmp 150) (.tmp 155) rfl rfl _ _ _ (by simp [Act.eval]) (by simp [Act.eval]) hrun ?_
      have HB5 := Lib.hid (HB4.out.trans (hb.mono HB4.out.size))
      have HKB := Lib.hid hka
      have HLkb : Hid (w4.heap.size ≤ kb) := Lib.hid (kb_ge hkb HLeb.out HB4.out.size)
      have HNgk : Hid (g ≠ kb) := Lib.hid (kb_ne hkb HNge.out HG.out.lt)
      replace HE := Lib.hid (Nat.lt_of_lt_of_le HE.out hb.size)
      replace HG := Lib.hid (HG.out.below hb HG.out.lt)
      clear hb hkb hka hrun
      refine hK.out _ _ (by exact HSW.out _ HB5.out) (fun hHeld => ?_)
      clear hK K
      try simp only [Act.put, List.setIfInBounds_toArray, List.set_cons_zero, List.set_cons_succ]
      refine wpAnyH_take (i := 18) (oi := _) (v := .agg #[.int .i64 nd, .slice (some ⟨kb, 0, none⟩) L c]) rfl (by as_aux_lemma => kernel_rfl) (by as_aux_lemma => kernel_rfl) (by as_aux_lemma => kernel_rfl) (fun c a w h => hP c a _ _ w h) (Or.inl ⟨by as_aux_lemma => kernel_rfl, fun w' hSw => ?_⟩) (by assumption) ?_
      ·((try dsimp only at hSw); go_simp; try with_reducible rfl)
      try simp only [Act.put, List.setIfInBounds_toArray, List.set_cons_zero, List.set_cons_succ]
      have x0 := HG.out.at 0 rfl
      have x1 := HG.out.at 1 rfl
      have f0 := HG.out.fr 0 rfl
      have f1 := HG.out.fr 1 rfl
      refine wpAnyH_ready (rs := [20]) (by as_aux_lemma => kernel_rfl) (by simp) ?_
      refine AllReadyH.cons rfl (fun K hK => ?_) AllReadyH.nil
      go_simp
      clear x0 x1 f0 f1
      have HNX := Lib.hid (NxAt.made HG.out HKB.out HLg.out HLkb.out HNgk.out nd (c := c))
      have HBX := Lib.hid ((HB5.out.setCell (p := ⟨g, 0, none⟩) HLg.out (.int .i64 nd)).setCell (p := ⟨g, 1, none⟩) HLg.out (.slice (some ⟨kb, 0, none⟩) L c))
      refine hK.out _ _ (by exact HSW.out _ HBX.out) (fun hHeld => ?_)
      clear hK K
      try simp only [Act.put, List.setIfInBounds_toArray, List.set_cons_zero, List.set_cons_succ]
      refine wpAnyH_done (by as_aux_lemma => kernel_rfl) ?_ _
      exact hQ g kb c _ _ _ _ _ _ _ _ _ _ _ _ _ _ _ _ _ _ _ _ HNX.out HBX.out
  ·skip
   go_simp
   have hbx := kbelow_box V1 (.cells #[] 4)
   have HB2 := Lib.hid (HB1.out.trans (hbx.mono HB1.out.size))
   have HLeb : Hid (w4.heap.size ≤ V1.heap.size) := Lib.hid HB1.out.size
   have HNge : Hid (g ≠ V1.heap.size) := Lib.hid (Nat.ne_of_lt HG.out.lt)
   replace HG := Lib.hid (HG.out.below hbx HG.out.lt)
   have HE : Hid (V1.heap.size < (V1.alloc (.cells #[] 4)).heap.size) := Lib.hid (by simp)
   clear hbx
   refine hK.out _ _ (by exact HSW.out _ HB2.out) (fun hHeld => ?_)
   clear hK K
   try simp only [Act.put, List.setIfInBounds_toArray, List.set_cons_zero, List.set_cons_succ]
   generalize V1.alloc (.cells #[] 4) = V2 at HB2 hHeld HE HG ⊢
   generalize V1.heap.size = eb at HLeb HNge HE ⊢
   refine wpAnyH_ready (rs := [6]) (by as_aux_lemma => kernel_rfl) (by simp) ?_
   refine AllReadyH.cons rfl (fun K hK => ?_) AllReadyH.nil
   ·skip
    go_simp
    refine (HTKC.out V2).mono ?_
    rintro e V3 ⟨rfl, hb⟩
    have HB3 := Lib.hid (HB2.out.trans (hb.mono HB2.out.size))
    replace HE := Lib.hid (Nat.lt_of_lt_of_le HE.out hb.size)
    replace HG := Lib.hid (HG.out.below hb HG.out.lt)
    clear hb
    try go_wp2_with fail
    refine hK.out _ _ (by exact HSW.out _ HB3.out) (fun hHeld => ?_)
    clear hK K
    try simp only [Act.put, List.setIfInBounds_toArray, List.set_cons_zero, List.set_cons_succ]
    refine wpAnyH_take (i := 7) (oi := _) (v := .int .i64 md) rfl (by as_aux_lemma => kernel_rfl) (by as_aux_lemma => kernel_rfl) (by as_aux_lemma => kernel_rfl) (fun c a w h => hP c a _ _ w h) (Or.inl ⟨by as_aux_lemma => kernel_rfl, fun w' hSw => ?_⟩) (by assumption) ?_
    ·((try dsimp only at hSw); go_simp; try with_reducible rfl)
    try simp only [Act.put, List.setIfInBounds_toArray, List.set_cons_zero, List.set_cons_succ]
    refine wpAnyH_ready (rs := [9]) (by as_aux_lemma => kernel_rfl) (by simp) ?_
    refine AllReadyH.cons rfl (fun K hK => ?_) AllReadyH.nil
    ·skip
     go_simp
     refine (HLYC.out V3).mono ?_
     rintro e V4 ⟨rfl, hb⟩
     have HB4 := Lib.hid (HB3.out.trans (hb.mono HB3.out.size))
     replace HE := Lib.hid (Nat.lt_of_lt_of_le HE.out hb.size)
     replace HG := Lib.hid (HG.out.below hb HG.out.lt)
     clear hb
     try go_wp2_with fail
     refine hK.out _ _ (by exact HSW.out _ HB4.out) (fun hHeld => ?_)
     clear hK K
     try simp only [Act.put, List.setIfInBounds_toArray, List.set_cons_zero, List.set_cons_succ]
     refine wpAnyH_take (i := 10) (oi := _) (v := .int .i64 nd) rfl (by as_aux_lemma => kernel_rfl) (by as_aux_lemma => kernel_rfl) (by as_aux_lemma => kernel_rfl) (fun c a w h => hP c a _ _ w h) (Or.inl ⟨by as_aux_lemma => kernel_rfl, fun w' hSw => ?_⟩) (by assumption) ?_
     ·((try dsimp only at hSw); go_simp; try with_reducible rfl)
     try simp only [Act.put, List.setIfInBounds_toArray, List.set_cons_zero, List.set_cons_succ]
     refine wpAnyH_ready (rs := [17]) (by as_aux_lemma => kernel_rfl) (by simp) ?_
     refine AllReadyH.cons rfl (fun K hK => ?_) AllReadyH.nil
     ·skip
      obtain ⟨kb, c, V5, hrun, hb, hkb, hka⟩ := app_kept V4 eb aj L cj kj hL40 (HKC.out V4 HB4.out) HE.out
      refine step_app_bl _ _ rfl (.tmp 150) (.tmp 155) rfl rfl _ _ _ (by simp [Act.eval]) (by simp [Act.eval]) hrun ?_
      have HB5 := Lib.hid (HB4.out.trans (hb.mono HB4.out.size))
      have HKB := Lib.hid hka
      have HLkb : Hid (w4.heap.size ≤ kb) := Lib.hid (kb_ge hkb HLeb.out HB4.out.size)
      have HNgk : Hid (g ≠ kb) := Lib.hid (kb_ne hkb HNge.out HG.out.lt)
      replace HE := Lib.hid (Nat.lt_of_lt_of_le HE.out hb.size)
      replace HG := Lib.hid (HG.out.below hb HG.out.lt)
      clear hb hkb hka hrun
      refine hK.out _ _ (by exact HSW.out _ HB5.out) (fun hHeld => ?_)
      clear hK K
      try simp only [Act.put, List.setIfInBounds_toArray, List.set_cons_zero, List.set_cons_succ]
      refine wpAnyH_take (i := 18) (oi := _) (v := .agg #[.int .i64 nd, .slice (some ⟨kb, 0, none⟩) L c]) rfl (by as_aux_lemma => kernel_rfl) (by as_aux_lemma => kernel_rfl) (by as_aux_lemma => kernel_rfl) (fun c a w h => hP c a _ _ w h) (Or.inl ⟨by as_aux_lemma => kernel_rfl, fun w' hSw => ?_⟩) (by assumption) ?_
      ·((try dsimp only at hSw); go_simp; try with_reducible rfl)
      try simp only [Act.put, List.setIfInBounds_toArray, List.set_cons_zero, List.set_cons_succ]
      have x0 := HG.out.at 0 rfl
      have x1 := HG.out.at 1 rfl
      have f0 := HG.out.fr 0 rfl
      have f1 := HG.out.fr 1 rfl
      refine wpAnyH_ready (rs := [20]) (by as_aux_lemma => kernel_rfl) (by simp) ?_
      refine AllReadyH.cons rfl (fun K hK => ?_) AllReadyH.nil
      go_simp
      clear x0 x1 f0 f1
      have HNX := Lib.hid (NxAt.made HG.out HKB.out HLg.out HLkb.out HNgk.out nd (c := c))
      have HBX := Lib.hid ((HB5.out.setCell (p := ⟨g, 0, none⟩) HLg.out (.int .i64 nd)).setCell (p := ⟨g, 1, none⟩) HLg.out (.slice (some ⟨kb, 0, none⟩) L c))
      refine hK.out _ _ (by exact HSW.out _ HBX.out) (fun hHeld => ?_)
      clear hK K
      try simp only [Act.put, List.setIfInBounds_toArray, List.set_cons_zero, List.set_cons_succ]
      refine wpAnyH_done (by as_aux_lemma => kernel_rfl) ?_ _
      exact hQ g kb c _ _ _ _ _ _ _ _ _ _ _ _ _ _ _ _ _ _ _ _ HNX.out HBX.out
end Go.Proofs.YtmlpedgcpffpnaaGreatDoor
