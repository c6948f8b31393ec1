/-
  The effects of steps: what the program's text lays is what the walks read; steps that come in.
-/
import Derived.Test.YtfmlbgcfildidaaDoorNC
import Derived.Test.YtfmlbgcfildidaaDoorRows
import Derived.Lib.LaidU8
namespace Go.Proofs.YtfmlbgcfildidaaDoor
open Go.RowKit Go.Lib

theorem gEff : Tryd.prog.globalNamed "paycycle/code.effects" = some 0 := by kernel_rfl
theorem gEffT : (Tryd.prog.globals[0]?).map (·.type) = some 134 := by kernel_rfl
theorem cEff : Tryd.prog.cellsOf 133 = 2 := by kernel_rfl
theorem eff_data {q : Nat} (h1 : 1 ≤ q) (h2 : q ≤ 16) {ds : List (DataW Unit)} (h : (Rows.laid_paycycle_code_effects : DataW Unit) = .agg ds) : ds[q]? = some (.agg [.lit (.int .i64 (takesOf q)), .lit (.int .i64 (laysOf q))]) := by
  unfold Rows.laid_paycycle_code_effects at h
  injection h with h
  subst h
  have : q = 1 ∨ q = 2 ∨ q = 3 ∨ q = 4 ∨ q = 5 ∨ q = 6 ∨ q = 7 ∨ q = 8 ∨ q = 9 ∨ q = 10 ∨ q = 11 ∨ q = 12 ∨ q = 13 ∨ q = 14 ∨ q = 15 ∨ q = 16 := by omega
  rcases this with rfl | rfl | rfl | rfl | rfl | rfl | rfl | rfl | rfl | rfl | rfl | rfl | rfl | rfl | rfl | rfl <;> rfl
set_option maxRecDepth 100000 in
theorem eff_of {W : World} (h : VarReads Tryd.prog W "paycycle/code.effects" Rows.laid_paycycle_code_effects) : Eff W := by
  intro q h1 h2
  obtain ⟨g, t, cs, fuel, p, hg, hty, hvar, hd⟩ := h
  obtain rfl := Option.some.inj (gEff.symm.trans hg)
  obtain rfl := Option.some.inj (gEffT.symm.trans hty)
  obtain ⟨ds, hds⟩ : ∃ ds, (Rows.laid_paycycle_code_effects : DataW Unit) = .agg ds := ⟨_, rfl⟩
  rw [hds] at hd
  obtain ⟨fuel', d, pl, hdi, he⟩ := array_elem Tryd.underlying134 hd q (by omega)
  rw [eff_data h1 h2 hds] at hdi
  rw [cEff] at he
  obtain ⟨xs, k, hk, hxy, hcl, hxl, hf⟩ := DataW.trod_struct Tryd.underlying133 he
  have hc : ∀ i, i < 2 → W.cell? ⟨0, q * 2 + i, none⟩ = ((cs.toList.drop (q * 2)).take 2)[i]? := fun i hi => by
    rw [World.var?_cell hg hvar (q * 2 + i), ← Array.getElem?_toList]
    simp [List.getElem?_drop, hi]
  have hlen : ((cs.toList.drop (q * 2)).take 2).length = 2 := by rw [hcl]; exact cEff
  generalize ((cs.toList.drop (q * 2)).take 2) = c at *
  match xs, hxl, c, hlen with
  | [y0, y1], _, [v0, v1], _ =>
    have g0 := hf 0 _ rfl
    have g1 := hf 1 _ rfl
    simp [kcells_int] at g0 g1
    obtain ⟨n0, q0, e0, _⟩ := DataW.trod_int Tryd.underlying3 g0
    obtain ⟨n1, q1, e1, _⟩ := DataW.trod_int Tryd.underlying3 g1
    simp at q0 q1
    subst q0 q1 e0 e1
    have hx := congrArg Prod.fst hxy
    simp at hx
    have hdd := Option.some.inj hdi
    rw [hx] at hdd
    injection hdd with hdd
    simp at hdd
    obtain ⟨r0, r1⟩ := hdd
    have k0 := hc 0 (by omega)
    have k1 := hc 1 (by omega)
    simp at k0 k1
    exact ⟨by rw [k0, r0], by rw [k1, r1]⟩
theorem i64_of {n : Int} (h : (Lit.int .i64 n).wf = true) : I64 n := by
  simp [Lit.wf] at h
  have e1 : IntKind.i64.min = -9223372036854775808 := by decide
  have e2 : IntKind.i64.max = 9223372036854775807 := by decide
  unfold I64
  omega
set_option maxRecDepth 100000 in
theorem open_opsI {H : Type} {enc : TypeId × Value → H} {W : World} {fuel : Nat} {v : Value} {x : DataW H × List MemPlace}
    (h : DataW.trod enc Tryd.prog W 0 (fun _ => true) true fuel 41 [v] = some x) :
    ∃ (a : Option Addr) (len cap : Nat) (l : List Bk), v = .slice a len cap ∧ CameB W a l ∧ (∀ j, j < len → I64 (bnth l j).rate) ∧ l.length = len ∧ len ≤ maxLen := by
  rcases Deep.open_slice Tryd.underlying41 h with ⟨hcs, _⟩ | ⟨a', len, cap, m, n, D, Pl, hcs, hb, hl, hm, hmm, _, hx⟩
  · simp at hcs
    exact ⟨none, 0, 0, [], hcs, .inl rfl, fun j hj => absurd hj (Nat.not_lt_zero _), rfl, Nat.zero_le _⟩
  simp at hcs
  subst hcs
  have hmc : m = cap := by rw [hmm]; simp
  subst hmc
  have each : ∀ i, i < m → ∃ r : Bk, W.cell? (a'.add (i * 2)) = some (.int .i64 r.frm) ∧ W.cell? (a'.add (i * 2 + 1)) = some (.int .i64 r.rate) ∧ I64 r.rate := by
    intro i hi
    obtain ⟨cs', h1, h2⟩ := hx i hi
    rw [kcells_op] at h1
    obtain ⟨_, hlen, hcell⟩ := World.cells?_some h1
    obtain ⟨xs, k, hk, hxy, _, hxl, hf⟩ := DataW.trod_struct Tryd.underlying94 h2
    match xs, hxl, cs', hlen with
    | [y0, y1], _, [v0, v1], _ =>
      have g0 := hf 0 _ rfl
      have g1 := hf 1 _ rfl
      simp [kcells_int] at g0 g1
      obtain ⟨n0, q0, _, w0⟩ := DataW.trod_int Tryd.underlying3 g0
      obtain ⟨n1, q1, _, w1⟩ := DataW.trod_int Tryd.underlying3 g1
      simp at q0 q1
      subst q0 q1
      have e0 := hcell 0 (by omega)
      have e1 := hcell 1 (by omega)
      rw [Deep.add_add] at e0 e1
      exact ⟨⟨n0, n1⟩, by simpa using e0, by simpa using e1, i64_of w1⟩
  haveI : Inhabited Bk := ⟨⟨0, 0⟩⟩
  obtain ⟨q, hq⟩ := Deep.choose_lt each
  have hnth : ∀ j, j < len → bnth ((List.range len).map q) j = q j := by
    intro j hj
    simp [bnth, List.getD_eq_getElem?_getD, hj]
  refine ⟨some a', len, m, (List.range len).map q, rfl, ?_, fun j hj => by rw [hnth j hj]; exact (hq j (by omega)).2.2, by simp, by omega⟩
  by_cases h0 : len = 0
  · exact .inl (by simp [h0])
  · obtain ⟨b, off, spot⟩ := a'
    have hc := (hq 0 (by omega)).1
    have hspot : spot = none := by simpa [Addr.add] using World.cell?_spot hc
    subst hspot
    refine .inr ⟨b, off, rfl, blt_of_cell hc, fun j hj => ?_⟩
    have hj' : j < len := by simpa using hj
    have := hq j (by omega)
    simp only [Addr.add_lit] at this
    rw [hnth j hj']
    exact ⟨by simpa [Nat.add_assoc] using this.1, by simpa [Nat.add_assoc] using this.2.1⟩
end Go.Proofs.YtfmlbgcfildidaaDoor
