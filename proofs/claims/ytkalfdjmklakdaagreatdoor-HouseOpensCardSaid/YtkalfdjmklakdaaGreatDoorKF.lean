/-
  The shapes of expressions: what the program's text lays is what the walks read.
-/
import Derived.Test.YtkalfdjmklakdaaGreatDoorKC
import Derived.Test.YtkalfdjmklakdaaGreatDoorRows
import Derived.Lib.LaidU8
namespace Go.Proofs.YtkalfdjmklakdaaGreatDoor
open Go.RowKit Go.Lib
theorem gShp : Tryz.prog.globalNamed "paycycle/rules.shapes" = some 0 := by kernel_rfl
theorem gShpT : (Tryz.prog.globals[0]?).map (·.type) = some 201 := by kernel_rfl
theorem cShp : Tryz.prog.cellsOf 200 = 4 := by kernel_rfl
theorem cBool : Tryz.prog.cellsOf 4 = 1 := by kernel_rfl
theorem shp_data {q : Nat} (h1 : 1 ≤ q) (h2 : q ≤ 13) {ds : List (DataW Unit)} (h : (Rows.laid_paycycle_rules_shapes : DataW Unit) = .agg ds) : ds[q]? = some (.agg [.lit (.int .i64 (kidsOf q)), .lit (.bool (namedB q)), .lit (.int .i64 (leastOf q)), .lit (.int .i64 (mostOf q))]) := by
 unfold Rows.laid_paycycle_rules_shapes at h
 injection h with h
 subst h
 have : q = 1 ∨ q = 2 ∨ q = 3 ∨ q = 4 ∨ q = 5 ∨ q = 6 ∨ q = 7 ∨ q = 8 ∨ q = 9 ∨ q = 10 ∨ q = 11 ∨ q = 12 ∨ q = 13 := by omega
 rcases this with rfl | rfl | rfl | rfl | rfl | rfl | rfl | rfl | rfl | rfl | rfl | rfl | rfl <;> rfl
set_option maxRecDepth 100000 in
theorem shp_of {W : World} (h : VarReads Tryz.prog W "paycycle/rules.shapes" Rows.laid_paycycle_rules_shapes) : Shp W := by
 intro q h1 h2
 obtain ⟨g, t, cs, fuel, p, hg, hty, hvar, hd⟩ := h
 obtain rfl := Option.some.inj (gShp.symm.trans hg)
 obtain rfl := Option.some.inj (gShpT.symm.trans hty)
 obtain ⟨ds, hds⟩ : ∃ ds, (Rows.laid_paycycle_rules_shapes : DataW Unit) = .agg ds := ⟨_, rfl⟩
 rw [hds] at hd
 obtain ⟨fuel', d, pl, hdi, he⟩ := array_elem Tryz.underlying201 hd q (by omega)
 rw [shp_data h1 h2 hds] at hdi
 rw [cShp] at he
 obtain ⟨xs, k, hk, hxy, hcl, hxl, hf⟩ := DataW.trod_struct Tryz.underlying200 he
 have hc : ∀ i, i < 4 → W.cell? ⟨0, q * 4 + i, none⟩ = ((cs.toList.drop (q * 4)).take 4)[i]? := fun i hi => by
  rw [World.var?_cell hg hvar (q * 4 + i), ← Array.getElem?_toList]
  simp [List.getElem?_drop, hi]
 have hlen : ((cs.toList.drop (q * 4)).take 4).length = 4 := by rw [hcl]; exact cShp
 generalize ((cs.toList.drop (q * 4)).take 4) = c at *
 match xs, hxl, c, hlen with
 | [y0, y1, y2, y3], _, [v0, v1, v2, v3], _ =>
   have g0 := hf 0 _ rfl
   have g1 := hf 1 _ rfl
   have g2 := hf 2 _ rfl
   have g3 := hf 3 _ rfl
   simp [kcells_int, cBool] at g0 g1 g2 g3
   obtain ⟨n0, q0, e0, _⟩ := DataW.trod_int Tryz.underlying3 g0
   obtain ⟨b1, q1, e1⟩ := DataW.trod_bool Tryz.underlying4 g1
   obtain ⟨n2, q2, e2, _⟩ := DataW.trod_int Tryz.underlying3 g2
   obtain ⟨n3, q3, e3, _⟩ := DataW.trod_int Tryz.underlying3 g3
   simp at q0 q1 q2 q3
   subst q0 q1 q2 q3 e0 e1 e2 e3
   have hx := congrArg Prod.fst hxy
   simp at hx
   have hdd := Option.some.inj hdi
   rw [hx] at hdd
   injection hdd with hdd
   simp at hdd
   obtain ⟨r0, r1, r2, r3⟩ := hdd
   have k0 := hc 0 (by omega)
   have k1 := hc 1 (by omega)
   have k2 := hc 2 (by omega)
   have k3 := hc 3 (by omega)
   simp at k0 k1 k2 k3
   exact ⟨by rw [k0, r0], by rw [k1, r1], by rw [k2, r2], by rw [k3, r3]⟩
end Go.Proofs.YtkalfdjmklakdaaGreatDoor
