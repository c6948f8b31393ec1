/-
  The shapes of expressions: what the program's text lays is what the walks read.
-/
import Derived.Test.YtmlpedgcpffpnaaGreatDoorKQ3
import Derived.Test.YtmlpedgcpffpnaaGreatDoorRows
import Derived.Lib.LaidU8
import Derived.Test.YtmlpedgcpffpnaaGreatDoorKZ0
import Derived.Test.YtmlpedgcpffpnaaGreatDoorKQ5
import Derived.Test.YtmlpedgcpffpnaaGreatDoorKQI
set_option linter.unusedSimpArgs false
set_option maxRecDepth 100000
set_option maxHeartbeats 8000000
namespace Go.Proofs.YtmlpedgcpffpnaaGreatDoor
open Go.RowKit Go.Lib
theorem gShp : Tryz.prog.globalNamed "paycycle/rules.shapes" = some 4 := by kernel_rfl
theorem gShpT : (Tryz.prog.globals[4]?).map (·.type) = some 218 := by kernel_rfl
theorem cShp : Tryz.prog.cellsOf 217 = 4 := by kernel_rfl
theorem cBool : Tryz.prog.cellsOf 4 = 1 := by kernel_rfl
theorem shp_data {q : Nat} (h1 : 1 <= q) (h2 : q <= 13) {ds : List (DataW Unit)} (h : (Rows.laid_paycycle_rules_shapes : DataW Unit) = .agg ds) : ds[q]? = some (.agg [.lit (.int .i64 (kidsOf q)), .lit (.bool (namedB q)), .lit (.int .i64 (leastOf q)), .lit (.int .i64 (mostOf q))]) := by
 unfold Rows.laid_paycycle_rules_shapes at h;injection h with h
 subst h;have : q = 1 \/ q = 2 \/ q = 3 \/ q = 4 \/ q = 5 \/ q = 6 \/ q = 7 \/ q = 8 \/ q = 9 \/ q = 10 \/ q = 11 \/ q = 12 \/ q = 13 := by omega
 rcases this with rfl | rfl | rfl | rfl | rfl | rfl | rfl | rfl | rfl | rfl | rfl | rfl | rfl <;> rfl
theorem shp_of {W : World} (h : VarReads Tryz.prog W "paycycle/rules.shapes" Rows.laid_paycycle_rules_shapes) : Shp W := by
 intro q h1 h2;obtain ⟨g, t, cs, fuel, p, hg, hty, hvar, hd⟩ := h;obtain rfl := Option.some.inj (gShp.symm.trans hg);obtain rfl := Option.some.inj (gShpT.symm.trans hty);obtain ⟨ds, hds⟩ : ∃ ds, (Rows.laid_paycycle_rules_shapes : DataW Unit) = .agg ds := ⟨_, rfl⟩;rw [hds] at hd;obtain ⟨fuel', d, pl, hdi, he⟩ := array_elem Tryz.underlying218 hd q (by omega);rw [shp_data h1 h2 hds] at hdi;rw [cShp] at he;obtain ⟨xs, k, hk, hxy, hcl, hxl, hf⟩ := DataW.trod_struct Tryz.underlying217 he;have hc : ∀ i, i < 4 -> W.cell? ⟨4, q * 4 + i, none⟩ = ((cs.toList.drop (q * 4)).take 4)[i]? := fun i hi => by
  rw [World.var?_cell hg hvar (q * 4 + i), <- Array.getElem?_toList];simp [List.getElem?_drop, hi]
 have hlen : ((cs.toList.drop (q * 4)).take 4).length = 4 := by rw [hcl]; exact cShp
 generalize ((cs.toList.drop (q * 4)).take 4) = c at *
 match xs, hxl, c, hlen with
 | [y0, y1, y2, y3], _, [v0, v1, v2, v3], _ =>
   have g0 := hf 0 _ rfl;have g1 := hf 1 _ rfl;have g2 := hf 2 _ rfl;have g3 := hf 3 _ rfl;simp [kcells_int, cBool] at g0 g1 g2 g3;obtain ⟨n0, q0, e0, _⟩ := DataW.trod_int Tryz.underlying3 g0;obtain ⟨b1, q1, e1⟩ := DataW.trod_bool Tryz.underlying4 g1;obtain ⟨n2, q2, e2, _⟩ := DataW.trod_int Tryz.underlying3 g2;obtain ⟨n3, q3, e3, _⟩ := DataW.trod_int Tryz.underlying3 g3;simp at q0 q1 q2 q3;subst q0 q1 q2 q3 e0 e1 e2 e3;have hx := congrArg Prod.fst hxy;simp at hx;have hdd := Option.some.inj hdi;rw [hx] at hdd;injection hdd with hdd
   simp at hdd;obtain ⟨r0, r1, r2, r3⟩ := hdd;have k0 := hc 0 (by omega);have k1 := hc 1 (by omega);have k2 := hc 2 (by omega);have k3 := hc 3 (by omega);simp at k0 k1 k2 k3;exact ⟨by rw [k0, r0], by rw [k1, r1], by rw [k2, r2], by rw [k3, r3]⟩
theorem gEff : Tryz.prog.globalNamed "paycycle/code.effects" = some 2 := by kernel_rfl
theorem gEffT : (Tryz.prog.globals[2]?).map (·.type) = some 174 := by kernel_rfl
theorem cEff : Tryz.prog.cellsOf 173 = 2 := by kernel_rfl
theorem eff_data {q : Nat} (h1 : 1 <= q) (h2 : q <= 16) {ds : List (DataW Unit)} (h : (Rows.laid_paycycle_code_effects : DataW Unit) = .agg ds) : ds[q]? = some (.agg [.lit (.int .i64 (takesOf q)), .lit (.int .i64 (laysOf q))]) := by
 unfold Rows.laid_paycycle_code_effects at h;injection h with h
 subst h;have : q = 1 \/ q = 2 \/ q = 3 \/ q = 4 \/ q = 5 \/ q = 6 \/ q = 7 \/ q = 8 \/ q = 9 \/ q = 10 \/ q = 11 \/ q = 12 \/ q = 13 \/ q = 14 \/ q = 15 \/ q = 16 := by omega
 rcases this with rfl | rfl | rfl | rfl | rfl | rfl | rfl | rfl | rfl | rfl | rfl | rfl | rfl | rfl | rfl | rfl <;> rfl
theorem eff_of {W : World} (h : VarReads Tryz.prog W "paycycle/code.effects" Rows.laid_paycycle_code_effects) : Eff W := by
 intro q h1 h2;obtain ⟨g, t, cs, fuel, p, hg, hty, hvar, hd⟩ := h;obtain rfl := Option.some.inj (gEff.symm.trans hg);obtain rfl := Option.some.inj (gEffT.symm.trans hty);obtain ⟨ds, hds⟩ : ∃ ds, (Rows.laid_paycycle_code_effects : DataW Unit) = .agg ds := ⟨_, rfl⟩;rw [hds] at hd;obtain ⟨fuel', d, pl, hdi, he⟩ := array_elem Tryz.underlying174 hd q (by omega);rw [eff_data h1 h2 hds] at hdi;rw [cEff] at he;obtain ⟨xs, k, hk, hxy, hcl, hxl, hf⟩ := DataW.trod_struct Tryz.underlying173 he;have hc : ∀ i, i < 2 -> W.cell? ⟨2, q * 2 + i, none⟩ = ((cs.toList.drop (q * 2)).take 2)[i]? := fun i hi => by
  rw [World.var?_cell hg hvar (q * 2 + i), <- Array.getElem?_toList];simp [List.getElem?_drop, hi]
 have hlen : ((cs.toList.drop (q * 2)).take 2).length = 2 := by rw [hcl]; exact cEff
 generalize ((cs.toList.drop (q * 2)).take 2) = c at *
 match xs, hxl, c, hlen with
 | [y0, y1], _, [v0, v1], _ =>
   have g0 := hf 0 _ rfl;have g1 := hf 1 _ rfl;simp [kcells_int] at g0 g1;obtain ⟨n0, q0, e0, _⟩ := DataW.trod_int Tryz.underlying3 g0;obtain ⟨n1, q1, e1, _⟩ := DataW.trod_int Tryz.underlying3 g1;simp at q0 q1;subst q0 q1 e0 e1;have hx := congrArg Prod.fst hxy;simp at hx;have hdd := Option.some.inj hdi;rw [hx] at hdd;injection hdd with hdd
   simp at hdd;obtain ⟨r0, r1⟩ := hdd;have k0 := hc 0 (by omega);have k1 := hc 1 (by omega);simp at k0 k1;exact ⟨by rw [k0, r0], by rw [k1, r1]⟩
theorem gDoo : Tryz.prog.globalNamed "paycycle/code.doOf" = some 0 := by kernel_rfl
theorem gDooT : (Tryz.prog.globals[0]?).map (·.type) = some 137 := by kernel_rfl
theorem doo_data {q : Nat} (h1 : q = 1 \/ q = 4 \/ 6 <= q) (h2 : q <= 12) {ds : List (DataW Unit)} (h : (Rows.laid_paycycle_code_doOf : DataW Unit) = .agg ds) : ds[q]? = some (.lit (.int .i64 (if q = 1 then 1 else ((q + 1 : Nat) : Int)))) := by
 unfold Rows.laid_paycycle_code_doOf at h;injection h with h
 subst h;have : q = 1 \/ q = 4 \/ q = 6 \/ q = 7 \/ q = 8 \/ q = 9 \/ q = 10 \/ q = 11 \/ q = 12 := by omega
 rcases this with rfl | rfl | rfl | rfl | rfl | rfl | rfl | rfl | rfl <;> rfl
theorem doo_of {W : World} (h : VarReads Tryz.prog W "paycycle/code.doOf" Rows.laid_paycycle_code_doOf) : Doo W := by
 intro q h1 h2;obtain ⟨g, t, cs, fuel, p, hg, hty, hvar, hd⟩ := h;obtain rfl := Option.some.inj (gDoo.symm.trans hg);obtain rfl := Option.some.inj (gDooT.symm.trans hty);obtain ⟨ds, hds⟩ : ∃ ds, (Rows.laid_paycycle_code_doOf : DataW Unit) = .agg ds := ⟨_, rfl⟩;rw [hds] at hd;obtain ⟨fuel', d, pl, hdi, he⟩ := array_elem Tryz.underlying137 hd q (by omega);rw [doo_data h1 h2 hds] at hdi;rw [kcells_int] at he;have hc : W.cell? ⟨0, q, none⟩ = ((cs.toList.drop (q * 1)).take 1)[0]? := by
  rw [World.var?_cell hg hvar q, <- Array.getElem?_toList];simp [List.getElem?_drop]
 generalize ((cs.toList.drop (q * 1)).take 1) = c at *;obtain ⟨n0, q0, e0, _⟩ := DataW.trod_int Tryz.underlying3 he;subst q0;have hdd := Option.some.inj hdi;have e1 := congrArg Prod.fst e0
 dsimp only at e1
 rw [e1] at hdd;injection hdd with hdd
 injection hdd with _ hdd
 rw [hc, hdd];rfl
end Go.Proofs.YtmlpedgcpffpnaaGreatDoor
