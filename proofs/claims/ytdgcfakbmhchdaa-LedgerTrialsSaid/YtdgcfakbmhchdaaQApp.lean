/-
  Promise Q2: 'append(v, j...)': a journal, whose postings are shared, laid into a row of the call's own.
-/
import Derived.Test.YtdgcfakbmhchdaaQTurnR
namespace Go.Proofs.Ytdgcfakbmhchdaa
open Go.RowKit

def cellE (l : List En) (A : Nat → Option Addr × Nat) (j : Nat) : Value := if j % 2 = 0 then .int .i64 (enth l (j / 2)).day else .slice (A (j / 2)).1 (enth l (j / 2)).ps.length (A (j / 2)).2
theorem cellE_one (l : List En) (A : Nat → Option Addr × Nat) (j : Nat) : (cellE l A j).oneCell' = true := by unfold cellE; split <;> rfl
theorem cellE_of {w : World} {a : Option Addr} {l : List En} {n : Nat} (h : CameE w a l) (hn : l.length = n) : ∃ A : Nat → Option Addr × Nat, (n = 0 ∨ ∃ b off, a = some ⟨b, off, none⟩ ∧ b < w.heap.size ∧ ∀ j, j < n * 2 → w.cell? ⟨b, off + j, none⟩ = some (cellE l A j)) ∧ ∀ j, j < n → PsAt w (A j).1 (enth l j).ps := by
  subst hn
  rcases h with h | ⟨b, off, rfl, hb, h⟩
  · exact ⟨fun _ => (none, 0), .inl h, fun j hj => by omega⟩
  · have each : ∀ j, j < l.length → ∃ p : Option Addr × Nat, w.cell? ⟨b, off + j * 2 + 1, none⟩ = some (.slice p.1 (enth l j).ps.length p.2) ∧ PsAt w p.1 (enth l j).ps := fun j hj => by
      obtain ⟨a, c, _, h1, h2⟩ := h j hj
      exact ⟨(a, c), h1, h2⟩
    haveI : Inhabited (Option Addr × Nat) := ⟨(none, 0)⟩
    obtain ⟨A, hA⟩ := Deep.choose_lt each
    refine ⟨A, .inr ⟨b, off, rfl, hb, fun j hj => ?_⟩, fun j hj => (hA j hj).2⟩
    have hk : j / 2 < l.length := by omega
    obtain ⟨_, _, h0, _⟩ := h (j / 2) hk
    have h4 := (hA (j / 2) hk).1
    unfold cellE
    by_cases hc : j % 2 = 0
    · rw [if_pos hc, show off + j = off + j / 2 * 2 by omega]; exact h0
    · rw [if_neg hc, show off + j = off + j / 2 * 2 + 1 by omega]; exact h4
theorem run_appJ {w0 : World} (w : World) (ty : TypeId) (B : Nat) (v : Value) (hv : w.ownsRow B 29 2 v 0 []) (a : Option Addr) (n c : Nat) (l : List En) (hc : CameE w0 a l) (hn : l.length = n) (hl : n ≤ 100) (hb0 : Go.RowKit.Below w0.heap.size w0 w) (hB0 : w0.heap.size ≤ B) (hB : B ≤ w.heap.size) :
    ∃ v' w', (Builtin.append_ #[22, 22] ty #[v, .slice a n c]).run Try.prog w = .ok v' w' ∧ GrowE w' B v' l ∧ Go.RowKit.Below B w w' ∧ w.grownBy w' v.ownBlock := by
  obtain ⟨i0, hi, hz0, hz1, hz2⟩ := info_parts infoEn
  obtain ⟨A, hsrc, hA⟩ := cellE_of hc hn
  cases a with
  | none =>
    have h0 : n = 0 := by
      rcases hsrc with h | ⟨b, off, e, _⟩
      · exact h
      · cases e
    subst h0
    refine ⟨_, _, run_append_owned_none (P := Try.prog) _ B 22 ty 29 i0 2 Try.underlying22 hi _ _ _ hv, ⟨[], by rw [hn]; exact hv, fun j hj => by omega⟩, Below.refl _ _, World.grownBy.refl _ _⟩
  | some ad =>
    have hnews : ∀ j u, ((List.range (n * 2)).map (cellE l A))[j]? = some u → w.cell? (ad.add j) = some u := by
      intro j u hu
      have hj : j < n * 2 := by
        by_cases h' : j < ((List.range (n * 2)).map (cellE l A)).length
        · simpa using h'
        · rw [List.getElem?_eq_none (by omega)] at hu; cases hu
      rcases hsrc with h0 | ⟨b, off, e, hbl, hcl⟩
      · omega
      · cases e
        rw [Addr.add_lit, hb0.cell (p := ⟨b, off + j, none⟩) hbl, hcl j hj]
        simpa [hj] using hu
    obtain ⟨v', w', hr, r2, r3, _, r5⟩ := run_append_own_at (P := Try.prog) _ B 22 ty 29 i0 _ 2 32 Try.underlying22 hi hz0 hz1 hz2 rfl (by decide) v 0 [] hv ad n c ((List.range (n * 2)).map (cellE l A)) (by simp) hnews (by intro u hu; obtain ⟨j, _, rfl⟩ := List.mem_map.1 hu; exact cellE_one l A j) (by unfold maxLen; omega) (by omega) hB
    have hbw : Go.RowKit.Below B w w' := (Below.refl B w).grown r3 hB fun k hk => (World.ownsRow.lt hv k hk).1
    rw [Nat.zero_add, List.nil_append] at r2
    refine ⟨v', w', hr, ⟨_, by rw [hn]; exact r2, fun j hj => ?_⟩, hbw, r3⟩
    rw [hn] at hj
    have hp := hA j hj
    refine ⟨?_, (A j).1, (A j).2, ?_, hp.below (hb0.trans (hbw.mono hB0)), ?_⟩
    · rw [List.getElem?_map, List.getElem?_range (by omega)]
      simp [cellE]
    · rw [List.getElem?_map, List.getElem?_range (by omega)]
      simp only [Option.map_some, cellE]
      rw [if_neg (by omega), show (j * 2 + 1) / 2 = j by omega]
    · rcases hp.1 with h1 | ⟨b, off, e, hat⟩
      · exact .inl h1
      · refine .inr ⟨b, off, e, fun q => ?_⟩
        have h5 := (World.ownsRow.lt r2 b q).1
        have h6 := hat.1
        omega
/-- Two cells that lie somewhere. -/
def Src2 (w : World) (g : Nat) (u v : Value) : Prop := w.cell? ⟨g, 0, none⟩ = some u ∧ w.cell? ⟨g, 1, none⟩ = some v
theorem Src2.box (w : World) (u v : Value) (t : TypeId) : Src2 (w.alloc (.cells #[u, v] t)) w.heap.size u v := ⟨World.cell?_alloc_at (w := w) _ _ _ _ rfl, World.cell?_alloc_at (w := w) _ _ _ _ rfl⟩
theorem Src2.alloc {w : World} {g : Nat} {u v : Value} (h : Src2 w g u v) (o : Obj) : Src2 (w.alloc o) g u v := ⟨((kbelow_box w o).cell (oblt_of_cell h.1)).trans h.1, ((kbelow_box w o).cell (oblt_of_cell h.2)).trans h.2⟩
theorem Src2.grown {w w' : World} {g : Nat} {u v : Value} {row : Option Nat} (h : Src2 w g u v) (hg : w.grownBy w' row) (hr : row ≠ some g) : Src2 w' g u v := ⟨hg.cell h.1 (fun q => hr q.symm), hg.cell h.2 (fun q => hr q.symm)⟩
theorem madeE (w : World) : (w.alloc (.cells #[] 29)).ownsRow w.heap.size 29 2 (.slice (some ⟨w.heap.size, 0, none⟩) 0 0) 0 [] := World.ownsRow_made (w := w) #[] 0 (Nat.le_refl _) (Nat.zero_le _) rfl
theorem step_run2 {ops : Array Oper} {o : Oper} {a : Act} {K : Act → World → Prop} {Q : Exit → Act → World → Prop} {E : Prop} (w : World) (hgd : o.guard = none) (s x : Operand) (t : TypeId)
    (ho : o.op = .call { callee := .builtin .append, args := #[s, x], argTypes := #[t, t] }) {v u : Value} (hs : a.eval s = v) (hx : a.eval x = u) {P : Value → World → Prop}
    (hrun : ∃ v' w', (Builtin.append_ #[t, t] o.type #[v, u]).run Try.prog w = .ok v' w' ∧ P v' w') (h : ∀ v' w', P v' w' → K (a.put o.dst v') w') :
    if Region.wanted o (yielded ops a.tmps) = true then Oper.wp Try.prog o a w K Q else E := by
  obtain ⟨v', w', hr, h2⟩ := hrun
  exact step_run w hgd s x t ho hs hx hr (h v' w' h2)
/-- 'append(v, x)': x lies somewhere, its postings are shared. -/
theorem run_appE2 {w0 : World} (w : World) (ty : TypeId) (B : Nat) (v : Value) (L : List En) (h : GrowE w B v L) (g0 : Nat) (d : Int) (x : Option Addr) (m c : Nat) (ps : List Am) (hs : Src2 w g0 (.int .i64 d) (.slice x m c)) (hm : ps.length = m) (hp : PsAt w0 x ps) (hl : L.length ≤ 1000) (hb0 : Go.RowKit.Below w0.heap.size w0 w) (hB0 : w0.heap.size ≤ B) (hB : B ≤ w.heap.size) :
    ∃ v' w', (Builtin.append_ #[22, 22] ty #[v, .slice (some ⟨g0, 0, none⟩) 1 1]).run Try.prog w = .ok v' w' ∧ GrowE w' B v' (L ++ [⟨d, ps⟩]) ∧ Go.RowKit.Below B w w' ∧ Go.RowKit.Below w0.heap.size w0 w' := by
  subst hm
  obtain ⟨i0, hi, hz0, hz1, hz2⟩ := info_parts infoEn
  have hlt := h.lt
  obtain ⟨xs, h1, h2⟩ := h
  have hnews : ∀ j u, [Value.int .i64 d, .slice x ps.length c][j]? = some u → w.cell? ((⟨g0, 0, none⟩ : Addr).add j) = some u := by
    intro j u hu
    rw [Addr.add_lit, Nat.zero_add]
    match j with
    | 0 => simp at hu; subst hu; exact hs.1
    | 1 => simp at hu; subst hu; exact hs.2
    | j + 2 => simp at hu
  obtain ⟨v', w', hr, r2, r3, _, r5⟩ := run_append_own_at (P := Try.prog) _ B 22 ty 29 i0 _ 2 32 Try.underlying22 hi hz0 hz1 hz2 rfl (by decide) v L.length xs h1 ⟨g0, 0, none⟩ 1 1 [.int .i64 d, .slice x ps.length c] rfl hnews (by intro u hu; simp at hu; rcases hu with rfl | rfl <;> rfl) (by unfold maxLen; omega) (by omega) hB
  have hbw : Go.RowKit.Below B w w' := (Below.refl B w).grown r3 hB fun k hk => (hlt k hk).1
  have hb1 := hb0.trans (hbw.mono hB0)
  have hxl : xs.length = L.length * 2 := h1.1
  have off : ∀ {b : Nat}, b < w.heap.size → v.ownBlock ≠ some b → v'.ownBlock ≠ some b := by
    intro b hb hne
    rcases r5 with e | e
    · rw [e]; exact hne
    · rw [e]
      intro q
      injection q with q
      omega
  have step : ∀ (y : Option Addr) (qs : List Am), PsAt w y qs → (qs.length = 0 ∨ ∃ b off, y = some ⟨b, off, none⟩ ∧ v.ownBlock ≠ some b) → PsAt w' y qs ∧ (qs.length = 0 ∨ ∃ b off, y = some ⟨b, off, none⟩ ∧ v'.ownBlock ≠ some b) := by
    intro y qs h3 h4
    refine ⟨psAt_grown h3 r3 h4, ?_⟩
    rcases h4 with h4 | ⟨b, o, e, h4⟩
    · exact .inl h4
    · rcases h3.1 with h5 | ⟨b', o', e', hat⟩
      · exact .inl h5
      · rw [e] at e'
        cases e'
        exact .inr ⟨b, o, e, off hat.1 h4⟩
  have hx : ps.length = 0 ∨ ∃ b off, x = some ⟨b, off, none⟩ ∧ v.ownBlock ≠ some b := by
    rcases hp.1 with h5 | ⟨b, o, e, hat⟩
    · exact .inl h5
    · refine .inr ⟨b, o, e, fun q => ?_⟩
      have h6 := (hlt b q).1
      have h7 := hat.1
      omega
  refine ⟨v', w', hr, ⟨xs ++ [.int .i64 d, .slice x ps.length c], ?_, fun j hj => ?_⟩, hbw, hb1⟩
  · rw [List.length_append]; exact r2
  · rw [List.length_append, List.length_singleton] at hj
    by_cases hjl : j < L.length
    · obtain ⟨q1, x1, c1, q2, q3, q4⟩ := h2 j hjl
      rw [enth_old L _ hjl, List.getElem?_append_left (by omega), List.getElem?_append_left (by omega)]
      exact ⟨q1, x1, c1, q2, step _ _ q3 q4⟩
    · have e : j = L.length := by omega
      subst e
      rw [enth_last, List.getElem?_append_right (by omega), List.getElem?_append_right (by omega), hxl, Nat.sub_self, show L.length * 2 + 1 - L.length * 2 = 1 by omega]
      exact ⟨rfl, x, c, rfl, step _ _ (hp.below hb0) hx⟩
end Go.Proofs.Ytdgcfakbmhchdaa
