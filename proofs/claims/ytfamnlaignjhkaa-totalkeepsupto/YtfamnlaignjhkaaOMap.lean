/-
  Promises M2, M4: sums by person, year and name: the map, and what becomes of it when something is added at a key.
-/
import Derived.Test.YtfamnlaignjhkaaOKey
namespace Go.Proofs.Ytfamnlaignjhkaa
open Go.RowKit Go.Sort Go.Maps Go.WideMaps

theorem zeroI (w : World) : (zeroValue 3).run Try.prog w = .ok (.int .i64 0) w := by kernel_rfl
/-- The map in block b has the sums that g tells, of n keys at most. -/
def SumIs (w : World) (b n : Nat) (g : Ky → Option Int) : Prop := ∃ D : DataW Unit, w.ownsMap Try.prog 67 (plainElem (H := Unit) Try.prog 3) b n D ∧ ∀ k, WfK k → Maps.has D (kLit k) = (g k).isSome ∧ D.atKey (kLit k) (.lit (.int .i64 0)) = .lit (.int .i64 ((g k).getD 0))
theorem SumIs.lt {w : World} {b n : Nat} {g : Ky → Option Int} (h : SumIs w b n g) : b < w.heap.size := by
  obtain ⟨D, h, _⟩ := h
  exact h.lt
theorem SumIs.below {w w' : World} {b n : Nat} {g : Ky → Option Int} (h : SumIs w b n g) (hb : Below w.heap.size w w') : SumIs w' b n g := by
  have hlt := h.lt
  obtain ⟨D, ⟨es, clock, hbk, h3⟩, h2⟩ := h
  exact ⟨D, ⟨es, clock, by rw [hb.block b hlt]; exact hbk, h3⟩, h2⟩
theorem SumIs.made (w : World) : SumIs (w.alloc (.map #[] 0)) w.heap.size 0 (fun _ => none) :=
  ⟨.map [], World.ownsMap_made _ _ _ _, fun k _ => ⟨by simp [Maps.has], by simp [DataW.atKey]⟩⟩
def putG (g : Ky → Option Int) (k : Ky) (v : Int) (k' : Ky) : Option Int := if k' = k then some v else g k'
theorem sum_step {w : World} {b n : Nat} {g : Ky → Option Int} (h : SumIs w b n g) (k : Ky) (hk : WfK k) (hn : n < maxLen) (v : Int) (hv : (Lit.int .i64 v).wf = true) :
    (Instr.lookup 65 (.map (some b)) (kyV k) false).run Try.prog w = .ok (.int .i64 ((g k).getD 0)) w ∧
    ∃ (v0 : Value) (st : Nat) (W2 W3 : World), (Instr.mapEntry 65 (.map (some b)) (kyV k)).run Try.prog w = .ok (.tuple #[v0, goInt st]) W2 ∧
      (Instr.entryStore 65 (.map (some b)) (goInt st) (.int .i64 v)).run Try.prog W2 = .ok () W3 ∧ SumIs W3 b (n + 1) (putG g k v) ∧ w.grownBy W3 (some b) := by
  obtain ⟨D, hown, hD⟩ := h
  refine ⟨?_, ?_⟩
  · obtain ⟨c, hrun, hat, _⟩ := hown.lookup_int keyLaw Try.underlying65 Try.underlying3 (zeroI _) (key_some hk)
    rw [(hD k hk).2] at hat
    injection hat with e
    injection e with _ e
    rw [e]
    exact hrun
  · have hown0 := hown
    obtain ⟨es, clock, hb, F, _⟩ := hown
    obtain ⟨v0, st, es1, clock1, hE, _, hS⟩ := WideElems.entry_then_store keyLaw0 Try.underlying65 zeroI hb F (key_some hk)
    obtain ⟨es', clock', hst, hup⟩ := hS (ChangeMaps.setBlock w b (.map es1 clock1)) (.int .i64 v) (ChangeMaps.heap_setBlock_same hb _)
    obtain ⟨w', hrun, hnew, hgr⟩ := hown0.update keyLaw Try.underlying65 hn (key_some hk) (plainElem_int Try.underlying3 hv)
    rw [hup] at hrun
    injection hrun with _ hrun
    subst hrun
    have e : ChangeMaps.setBlock (ChangeMaps.setBlock w b (.map es1 clock1)) b (.map es' clock') = ChangeMaps.setBlock w b (.map es' clock') := by simp [ChangeMaps.setBlock]
    rw [e] at hst
    refine ⟨v0, st, _, _, hE, hst, ⟨_, hnew, fun k' hk' => ?_⟩, hgr⟩
    unfold putG
    by_cases q : k' = k
    · subst q
      rw [if_pos rfl]
      exact ⟨has_put_same hown0.isMap (keyLaw.key (key_some hk)) _, atKey_put_same hown0.isMap (keyLaw.key (key_some hk)) _ _⟩
    · rw [if_neg q, has_put_other (fun e => q (kLit_inj hk' hk e)), atKey_put_other (fun e => q (kLit_inj hk' hk e))]
      exact hD k' hk'
/-- Between the two: the entry is made, and what is found there is what was. -/
theorem entry_look {w : World} {b n : Nat} {g : Ky → Option Int} (h : SumIs w b n g) (k : Ky) (hk : WfK k) (hn : n < maxLen) :
    ∃ (v : Value) (W2 : World), (Instr.mapEntry 65 (.map (some b)) (kyV k)).run Try.prog w = .ok v W2 ∧ (Instr.lookup 65 (.map (some b)) (kyV k) false).run Try.prog W2 = .ok (.int .i64 ((g k).getD 0)) W2 ∧ w.grownBy W2 (some b) := by
  have h0 := h
  obtain ⟨D, hown, hD⟩ := h
  have hown0 := hown
  have hkey := key_some hk
  obtain ⟨es, clock, hb, F, _⟩ := hown
  have grown : ∀ es1 clock1, w.grownBy (ChangeMaps.setBlock w b (.map es1 clock1)) (some b) := fun es1 clock1 => ⟨rfl, rfl, rfl, by simp [ChangeMaps.setBlock], fun i _ hi => ChangeMaps.heap_setBlock_other hb _ (fun e => hi (by rw [e]))⟩
  have zwf : (Lit.int .i64 0).wf = true := by decide
  rcases keyLaw0.find w hkey es.toList F.keys with ⟨h1, h2⟩ | ⟨j, e0, h1, h2, h3⟩
  · have hE : (Instr.mapEntry 65 (.map (some b)) (kyV k)).run Try.prog w = .ok (.tuple #[.int .i64 0, goInt clock]) (ChangeMaps.setBlock w b (.map (es.push ⟨kyV k, .int .i64 0, clock⟩) (clock + 1))) := by
      simp [Instr.mapEntry, run_underlying Try.underlying65, MapKept.run_getObj_map hb, keyLaw0.check w false hkey, h1, MapKept.run_setObj_map _ hb, Result.andThen, ChangeMaps.setBlock]
    have hU : (Instr.mapUpdate 65 (.map (some b)) (kyV k) (.int .i64 0)).run Try.prog w = .ok () (ChangeMaps.setBlock w b (.map (es.push ⟨kyV k, .int .i64 0, clock⟩) (clock + 1))) := by
      simp [Instr.mapUpdate, run_underlying Try.underlying65, MapKept.run_getObj_map hb, keyLaw0.check w false hkey, h1, MapKept.run_setObj_map _ hb, Result.andThen, ChangeMaps.setBlock]
    obtain ⟨w', hrun, hnew, _⟩ := hown0.update keyLaw Try.underlying65 hn hkey (plainElem_int Try.underlying3 zwf)
    rw [hU] at hrun
    injection hrun with _ hrun
    subst hrun
    refine ⟨_, _, hE, ?_, grown _ _⟩
    obtain ⟨c, hrun, hat, _⟩ := hnew.lookup_int keyLaw Try.underlying65 Try.underlying3 (zeroI _) hkey
    rw [atKey_put_same hown0.isMap (keyLaw.key hkey)] at hat
    simp only [DataW.lit.injEq, Lit.int.injEq, true_and] at hat
    have hl := (sum_step h0 k hk hn 0 zwf).1
    have hz : (g k).getD 0 = 0 := by
      have hl2 : (Instr.lookup 65 (.map (some b)) (kyV k) false).run Try.prog w = .ok (.int .i64 0) w := by
        simp [Instr.lookup, run_underlying Try.underlying65, MapKept.run_getObj_map hb, keyLaw0.check w _ hkey, h1, Result.andThen]
      rw [hl2] at hl
      injection hl with hl _
      injection hl with _ hl
      exact hl.symm
    rw [hz]
    subst hat
    exact hrun
  · have hj : es[j]? = some e0 := by simpa using h2
    have hsame : es.modify j (fun e => { e with key := kyV k }) = es := by
      apply Array.ext'
      rw [Array.toList_modify, ChangeMaps.modify_eq_set _ _ _ _ h2]
      have : ({ e0 with key := kyV k } : MapEntry) = e0 := by rw [← h3]
      rw [this]
      exact WideElems.set_self _ _ _ h2
    have hE : (Instr.mapEntry 65 (.map (some b)) (kyV k)).run Try.prog w = .ok (.tuple #[e0.val, goInt e0.born]) (ChangeMaps.setBlock w b (.map es clock)) := by
      simp [Instr.mapEntry, run_underlying Try.underlying65, MapKept.run_getObj_map hb, keyLaw0.check w false hkey, h1, hj, h3, keyLaw0.stays w hkey, hsame, MapKept.run_setObj_map _ hb, Result.andThen, ChangeMaps.setBlock]
    refine ⟨_, _, hE, ?_, grown _ _⟩
    have hs : SumIs (ChangeMaps.setBlock w b (.map es clock)) b n g := ⟨D, ⟨es, clock, ChangeMaps.heap_setBlock_same hb _, F, by assumption⟩, hD⟩
    exact (sum_step hs k hk hn 0 zwf).1
end Go.Proofs.Ytfamnlaignjhkaa
