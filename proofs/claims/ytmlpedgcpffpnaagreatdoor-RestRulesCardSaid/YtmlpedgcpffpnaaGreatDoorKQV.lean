/-
  The words of lines and the signs to compare with: what the program's text lays is what the walks read; ValueLines with all that it wants.
-/
import Derived.Test.YtmlpedgcpffpnaaGreatDoorKQU
import Derived.Test.YtmlpedgcpffpnaaGreatDoorKQP
set_option linter.unusedSimpArgs false
set_option maxRecDepth 100000
set_option maxHeartbeats 8000000
namespace Go.Proofs.YtmlpedgcpffpnaaGreatDoor
open Go.RowKit Go.Lib
theorem cStrX : Tryz.prog.cellsOf 9 = 1 := by kernel_rfl
theorem gLW : Tryz.prog.globalNamed "paycycle/rules.lineWords" = some 1 := by kernel_rfl
theorem tLW : (Tryz.prog.globals[1]?).map (·.type) = some 151 := by kernel_rfl
theorem dLW {q : Nat} (h : q < 5) {ds : List (DataW Unit)} (hd : (Rows.laid_paycycle_rules_lineWords : DataW Unit) = .agg ds) : ds[q]? = some (.lit (.string (lwW q).data.toList)) := by
 unfold Rows.laid_paycycle_rules_lineWords at hd;injection hd with hd
 subst hd
 match q, h with
 | 0, _ => rfl
 | 1, _ => rfl
 | 2, _ => rfl
 | 3, _ => rfl
 | 4, _ => rfl
theorem ofLW {W : World} (h : VarReads Tryz.prog W "paycycle/rules.lineWords" Rows.laid_paycycle_rules_lineWords) : LWs W := by
 intro q hq;obtain ⟨g, t, cs, fuel, p, hg, hty, hvar, hd⟩ := h;obtain rfl := Option.some.inj (gLW.symm.trans hg);obtain rfl := Option.some.inj (tLW.symm.trans hty);obtain ⟨ds, hds⟩ : ∃ ds, (Rows.laid_paycycle_rules_lineWords : DataW Unit) = .agg ds := ⟨_, rfl⟩;rw [hds] at hd;obtain ⟨fuel', d, pl, hdi, he⟩ := array_elem Tryz.underlying151 hd q (by omega);rw [dLW hq hds] at hdi;rw [cStrX] at he;have hc : W.cell? ⟨1, q, none⟩ = ((cs.toList.drop (q * 1)).take 1)[0]? := by
  rw [World.var?_cell hg hvar q, <- Array.getElem?_toList];simp [List.getElem?_drop]
 generalize ((cs.toList.drop (q * 1)).take 1) = c at *;obtain ⟨s, q0, e0, _⟩ := DataW.trod_string Tryz.underlying9 he;subst q0;have hdd := Option.some.inj hdi;have e1 := congrArg Prod.fst e0
 dsimp only at e1
 rw [e1] at hdd;injection hdd with hdd
 injection hdd with hdd
 rw [hc];have : s = lwW q := by
  cases s
  cases hw : lwW q
  rw [hw] at hdd;simp at hdd;rw [hdd]
 rw [this];rfl
theorem gTS : Tryz.prog.globalNamed "paycycle/rules.testSigns" = some 3 := by kernel_rfl
theorem tTS : (Tryz.prog.globals[3]?).map (·.type) = some 202 := by kernel_rfl
theorem dTS {q : Nat} (h : q < 4) {ds : List (DataW Unit)} (hd : (Rows.laid_paycycle_rules_testSigns : DataW Unit) = .agg ds) : ds[q]? = some (.lit (.string (tsW q).data.toList)) := by
 unfold Rows.laid_paycycle_rules_testSigns at hd;injection hd with hd
 subst hd
 match q, h with
 | 0, _ => rfl
 | 1, _ => rfl
 | 2, _ => rfl
 | 3, _ => rfl
theorem ofTS {W : World} (h : VarReads Tryz.prog W "paycycle/rules.testSigns" Rows.laid_paycycle_rules_testSigns) : TSs W := by
 intro q hq;obtain ⟨g, t, cs, fuel, p, hg, hty, hvar, hd⟩ := h;obtain rfl := Option.some.inj (gTS.symm.trans hg);obtain rfl := Option.some.inj (tTS.symm.trans hty);obtain ⟨ds, hds⟩ : ∃ ds, (Rows.laid_paycycle_rules_testSigns : DataW Unit) = .agg ds := ⟨_, rfl⟩;rw [hds] at hd;obtain ⟨fuel', d, pl, hdi, he⟩ := array_elem Tryz.underlying202 hd q (by omega);rw [dTS hq hds] at hdi;rw [cStrX] at he;have hc : W.cell? ⟨3, q, none⟩ = ((cs.toList.drop (q * 1)).take 1)[0]? := by
  rw [World.var?_cell hg hvar q, <- Array.getElem?_toList];simp [List.getElem?_drop]
 generalize ((cs.toList.drop (q * 1)).take 1) = c at *;obtain ⟨s, q0, e0, _⟩ := DataW.trod_string Tryz.underlying9 he;subst q0;have hdd := Option.some.inj hdi;have e1 := congrArg Prod.fst e0
 dsimp only at e1
 rw [e1] at hdd;injection hdd with hdd
 injection hdd with hdd
 rw [hc];have : s = tsW q := by
  cases s
  cases hw : tsW q
  rw [hw] at hdd;simp at hdd;rw [hdd]
 rw [this];rfl
end Go.Proofs.YtmlpedgcpffpnaaGreatDoor
