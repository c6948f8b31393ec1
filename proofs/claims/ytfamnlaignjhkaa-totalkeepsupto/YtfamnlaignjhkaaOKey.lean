/-
  Promises M2, M4: sums by person, year and name: the map's keys.
-/
import Derived.Test.YtfamnlaignjhkaaOCheckT
import Derived.DeepKeys4
import Derived.WideKeyEntry
import Derived.Maps.OwnSet
import Derived.Maps.RangeWalk
import Derived.Maps.Ext
namespace Go.Proofs.Ytfamnlaignjhkaa
open Go.RowKit Go.Sort Go.Maps Go.WideMaps

/-- What totals have in common that are one together. -/
structure Ky where
  per : Int
  yr : Int
  nam : ByteArray
def keyT (t : Tt) : Ky := ⟨t.per, t.yr, t.nam⟩
def kyV (k : Ky) : Value := .agg #[.int .i64 k.per, .int .i64 k.yr, .string k.nam]
def WfK (k : Ky) : Prop := (Lit.int .i64 k.per).wf = true ∧ (Lit.int .i64 k.yr).wf = true ∧ k.nam.size ≤ maxLen
theorem key_wide : (match Try.prog.underlying 67 with | some (.array _ _) | some (.struct _) => true | _ => false) = true := by kernel_rfl
theorem key_row : (67 : TypeId) < Try.prog.types.size := of_decide_eq_true (by kernel_rfl)
theorem key_type : Try.prog.keyType 67 = true := by kernel_rfl
theorem key_cells : Try.prog.cellsOf 67 = 3 := by kernel_rfl
theorem o_laidOut : laidOutB Try.prog = true := by kernel_rfl
theorem keyLaw0 : KeyLaw Try.prog 67 := deep_law_laid o_laidOut (m := 2) (by omega) key_row (by kernel_rfl) key_wide
theorem keyLaw : Keyed Try.prog 67 := Keyed.of_law keyLaw0
theorem types_size : ∃ m, Try.prog.types.size = m + 1 := ⟨114, by kernel_rfl⟩
def kLit (k : Ky) : Lit := .string (keyBytes [.int .i64 k.per, .int .i64 k.yr, .string k.nam.data.toList])
theorem key_some {k : Ky} (h : WfK k) : keyOf Try.prog 67 (kyV k) = some (kLit k) := by
  obtain ⟨h1, h2, h3⟩ := h
  obtain ⟨m, hm⟩ := types_size
  unfold keyOf
  have hf : (kyV k).formed Try.prog 67 = true := by simp [kyV, Value.formed, Try.underlying67, key_cells]
  simp only [Try.underlying67, key_type, hf, hm]
  simp [Program.keyLits, Try.underlying67, key_cells, kyV, Value.cells, ocells_int, ocells_str, Try.underlying3, Try.underlying9, h1, h2, h3, kLit]
theorem key_inv {v : Value} {kl : Lit} (h : keyOf Try.prog 67 v = some kl) : ∃ k, v = kyV k ∧ WfK k ∧ kl = kLit k := by
  obtain ⟨xs, L, rfl, h1, rfl⟩ := keyOf_top key_wide h
  obtain ⟨m, hm⟩ := types_size
  rw [hm] at h1
  unfold Program.keyLits at h1
  simp only [Try.underlying67, key_cells] at h1
  split at h1
  · rename_i hl
    obtain ⟨xs⟩ := xs
    match xs, hl with
    | [c0, c1, c2], _ =>
      cases a0 : Try.prog.keyLits (m + 1) 3 [c0] with
      | none => simp [ocells_int, ocells_str, a0] at h1
      | some L0 =>
        cases a1 : Try.prog.keyLits (m + 1) 3 [c1] with
        | none => simp [ocells_int, ocells_str, a0, a1] at h1
        | some L1 =>
          cases a2 : Try.prog.keyLits (m + 1) 9 [c2] with
          | none => simp [ocells_int, ocells_str, a0, a1, a2] at h1
          | some L2 =>
            simp [ocells_int, ocells_str, a0, a1, a2] at h1
            have w0 : ∃ n, c0 = .int .i64 n ∧ L0 = [.int .i64 n] ∧ (Lit.int .i64 n).wf = true := by
              unfold Program.keyLits at a0
              cases c0 <;> simp [Try.underlying3] at a0
              obtain ⟨⟨rfl, hw⟩, rfl⟩ := a0
              exact ⟨_, rfl, rfl, hw⟩
            have w1 : ∃ n, c1 = .int .i64 n ∧ L1 = [.int .i64 n] ∧ (Lit.int .i64 n).wf = true := by
              unfold Program.keyLits at a1
              cases c1 <;> simp [Try.underlying3] at a1
              obtain ⟨⟨rfl, hw⟩, rfl⟩ := a1
              exact ⟨_, rfl, rfl, hw⟩
            have w2 : ∃ s : ByteArray, c2 = .string s ∧ L2 = [.string s.data.toList] ∧ s.size ≤ maxLen := by
              unfold Program.keyLits at a2
              cases c2 <;> simp [Try.underlying9] at a2
              obtain ⟨hw, rfl⟩ := a2
              exact ⟨_, rfl, rfl, hw⟩
            obtain ⟨n0, rfl, rfl, f0⟩ := w0
            obtain ⟨n1, rfl, rfl, f1⟩ := w1
            obtain ⟨s2, rfl, rfl, f2⟩ := w2
            refine ⟨⟨n0, n1, s2⟩, rfl, ⟨f0, f1, f2⟩, ?_⟩
            rw [← h1]
            rfl
  · cases h1
theorem kLit_inj {a b : Ky} (ha : WfK a) (hb : WfK b) (h : kLit a = kLit b) : a = b := by
  have e := keyLaw.inj (key_some ha) (by rw [h]; exact key_some hb)
  unfold kyV at e
  cases a
  cases b
  simp at e
  obtain ⟨rfl, rfl, rfl⟩ := e
  rfl
instance : DecidableEq Ky := fun a b => by
  cases a; cases b
  simp
  infer_instance
end Go.Proofs.Ytfamnlaignjhkaa
