/-
  Promise R3: rows of the call's own: what slices.Clone makes; slips in a row that may be written.
-/
import Derived.Test.YtiedlmhahdnhaaaSRef
import Derived.Test.YtiedlmhahdnhaaaMGrow
import Derived.Maps.AppendAt
import Derived.Deep.RegionLaw
import Derived.Laws.IdiomCopy
import Derived.Laws.MakeOwn
import Derived.OwnWalk
import Derived.Lib.Walk
import Derived.Lib.SliceRun
namespace Go.Proofs.Ytiedlmhahdnhaaa
open Go.RowKit Go.Sort

/-- What a copy is: nil, or a new row of n elements of K cells, each f's, that may be written. -/
def ClonIs (w : World) (B K : Nat) (v : Value) (n : Nat) (f : Nat → Value) : Prop := (v = .slice none 0 0 ∧ n = 0) ∨ ∃ g c, v = .slice (some ⟨g, 0, none⟩) n c ∧ B ≤ g ∧ g < w.heap.size ∧ ∀ j, j < n * K → w.cell? ⟨g, j, none⟩ = some (f j) ∧ w.frozen? ⟨g, j, none⟩ = false
theorem wpList_run_app {ops : Array Oper} {rest : List Oper} {o : Oper} {a : Act} {Q : Exit → Act → World → Prop} (w : World) (hgd : o.guard = none) (s x : Operand) (t : TypeId)
    (ho : o.op = .call { callee := .builtin .append, args := #[s, x], argTypes := #[t, t] }) {v u : Value} (hs : a.eval s = v) (hx : a.eval x = u) {P : Value → World → Prop}
    (hrun : ∃ v' w', (Builtin.append_ #[t, t] o.type #[v, u]).run Try.prog w = .ok v' w' ∧ P v' w')
    (h : ∀ v' w', P v' w' → wpList Try.prog ops Q rest (a.put o.dst v') w') :
    wpList Try.prog ops Q (o :: rest) a w := by
  obtain ⟨v', w', hr, h2⟩ := hrun
  refine wpList_plain hgd fun _ hK => ?_
  unfold Oper.wp execOp
  simp only [ho, resolve, invoke, builtin, Sem.run_bind, Sem.run_pure, Result.andThen_ok, List.map_toArray, List.map_cons, List.map_nil, hs, hx, hr]
  exact hK _ _ (h v' w' h2)
theorem infoSl : (Try.prog.info? 44).map (fun i => (i.zero, i.size, i.bytes)) = some (some (.agg #[.int .i64 0, .int .i64 0, .int .i64 0, .bool false, .slice none 0 0]), 5, 56) := by kernel_rfl
theorem eqInSl (w : World) (d : Nat) (a : Option Addr) (l c : Nat) : (Op.equalIn (d + 1) 22 (.slice a l c) (.slice none 0 0)).run Try.prog w = .ok a.isNone w := by
  cases a <;> simp [Op.equalIn, run_underlying Try.underlying22]
theorem equalSl (w : World) (a : Option Addr) (l c : Nat) : (Op.equal 22 (.slice a l c) (.slice none 0 0)).run Try.prog w = .ok a.isNone w := eqInSl w 9999 a l c
theorem eqlSl (w : World) (a : Option Addr) (l c : Nat) : (binOp .eql 22 (.slice a l c) (.slice none 0 0)).run Try.prog w = .ok (.bool a.isNone) w := by
  simp [binOp, equalSl w a l c]
theorem run_cloneSl (w : World) (ty : TypeId) (g0 : Nat) (hg0 : w.ownsRow g0 44 5 (.slice (some ⟨g0, 0, none⟩) 0 0) 0 []) (ad : Addr) (n c : Nat) (f : Nat → Value) (hsrc : n = 0 ∨ ∃ b off, ad = ⟨b, off, none⟩ ∧ ∀ j, j < n * 5 → w.cell? ⟨b, off + j, none⟩ = some (f j)) (h1 : ∀ j, (f j).oneCell' = true) (hn : n * 56 ≤ 140737488355328) :
    ∃ v' w', (Builtin.append_ #[22, 22] ty #[.slice (some ⟨g0, 0, none⟩) 0 0, .slice (some ad) n c]).run Try.prog w = .ok v' w' ∧ ClonIs w' g0 5 v' n f ∧ Go.RowKit.Below g0 w w' := by
  obtain ⟨i0, hi, hz0, hz1, hz2⟩ := info_parts infoSl
  have hlt : g0 < w.heap.size := (World.ownsRow.lt hg0 g0 rfl).2
  have hnews : ∀ j u, ((List.range (n * 5)).map f)[j]? = some u → w.cell? (ad.add j) = some u := by
    intro j u hu
    have hj : j < n * 5 := by
      by_cases h' : j < ((List.range (n * 5)).map f).length
      · simpa using h'
      · rw [List.getElem?_eq_none (by omega)] at hu; cases hu
    rcases hsrc with h0 | ⟨b, off, rfl, hc⟩
    · subst h0; omega
    · rw [Addr.add_lit, hc j hj]
      simpa [hj] using hu
  have h1' : ∀ u ∈ (List.range (n * 5)).map f, u.oneCell' = true := by
    intro u hu
    obtain ⟨j, _, rfl⟩ := List.mem_map.1 hu
    exact h1 j
  obtain ⟨v', w', hr, h2, h3, hnn, h5⟩ := run_append_own_at (P := Try.prog) w g0 22 ty 44 i0 _ 5 56 Try.underlying22 hi hz0 hz1 hz2 rfl (by decide) (.slice (some ⟨g0, 0, none⟩) 0 0) 0 [] hg0 ad n c ((List.range (n * 5)).map f) (by simp) hnews h1' (by unfold maxLen; omega) (by omega) (by omega)
  refine ⟨v', w', hr, ?_, (Below.refl g0 w).grown h3 (by omega) fun k hk => ?_⟩
  · rw [Nat.zero_add, List.nil_append] at h2
    have hh := h2
    rcases h2.2 with ⟨e1, e2⟩ | ⟨g, cp, cur, e1, e2, _⟩
    · exact .inl ⟨e1, e2⟩
    · subst e1
      refine .inr ⟨g, cp, rfl, e2, (World.ownsRow.lt hh g rfl).2, fun j hj => ⟨?_, World.ownsRow.frozenAt hh j⟩⟩
      rw [World.ownsRow.cellAt hh j hj]
      simp [hj]
  · simp [Value.ownBlock] at hk
    omega
set_option maxRecDepth 100000 in
set_option maxHeartbeats 1000000 in
theorem cloneSl (a : Option Addr) (n cap : Nat) (f : Nat → Value) (w : World) (hc : n = 0 ∨ ∃ b off, a = some ⟨b, off, none⟩ ∧ ∀ j, j < n * 5 → w.cell? ⟨b, off + j, none⟩ = some (f j)) (h1 : ∀ j, (f j).oneCell' = true) (hn : n * 56 ≤ 140737488355328) :
    Calls Try.prog 55 #[.slice a n cap] w fun e w' => ∃ v, e = .returned v ∧ ClonIs w' w.heap.size 5 v n f ∧ Go.RowKit.Below w.heap.size w w' := by
  cases a with
  | none =>
    have h0 : n = 0 := by
      rcases hc with h | ⟨b, off, e, _⟩
      · exact h
      · cases e
    have HZ := Lib.hid h0
    clear h0 hc hn
    have hq := eqlSl
    go_enter Try.func55, Try.ntmps55
    go_wp2_with fail
    go_ret
    exact ⟨_, rfl, .inl ⟨rfl, HZ.out⟩, Below.refl _ _⟩
  | some ad =>
    have HG0 := Lib.hid (World.ownsRow_made (w := w) (base := w.heap.size) (e := 44) (size := 5) #[] 0 (Nat.le_refl _) (Nat.zero_le _) rfl)
    have HB0 := Lib.hid (kbelow_box w (.cells #[] 44))
    have HC : Hid (n = 0 ∨ ∃ b off, ad = ⟨b, off, none⟩ ∧ ∀ j, j < n * 5 → (w.alloc (.cells #[] 44)).cell? ⟨b, off + j, none⟩ = some (f j)) := by
      rcases hc with h | ⟨b, off, e, h⟩
      · exact .inl h
      · cases e
        refine .inr ⟨b, off, rfl, fun j hj => ?_⟩
        rw [HB0.out.cell (p := ⟨b, off + j, none⟩) (oblt_of_cell (h j hj))]
        exact h j hj
    have H1 := Lib.hid h1
    have HNN := Lib.hid hn
    clear hc hn h1
    have hq := eqlSl
    go_enter Try.func55, Try.ntmps55
    go_wp2_with (first | (at_builtin; refine wpList_run_app _ rfl _ _ _ rfl rfl rfl (run_cloneSl _ _ w.heap.size HG0.out ad n cap f HC.out H1.out (by have := HNN.out; omega)) ?_; rintro v' w2 ⟨hcl, hbel⟩))
    go_ret
    exact ⟨_, rfl, hcl, HB0.out.trans hbel⟩
theorem infoAm : (Try.prog.info? 52).map (fun i => (i.zero, i.size, i.bytes)) = some (some (.agg #[.string ⟨#[]⟩, .int .i64 0]), 2, 24) := by kernel_rfl
theorem eqInAm (w : World) (d : Nat) (a : Option Addr) (l c : Nat) : (Op.equalIn (d + 1) 27 (.slice a l c) (.slice none 0 0)).run Try.prog w = .ok a.isNone w := by
  cases a <;> simp [Op.equalIn, run_underlying Try.underlying27]
theorem equalAm (w : World) (a : Option Addr) (l c : Nat) : (Op.equal 27 (.slice a l c) (.slice none 0 0)).run Try.prog w = .ok a.isNone w := eqInAm w 9999 a l c
theorem eqlAm (w : World) (a : Option Addr) (l c : Nat) : (binOp .eql 27 (.slice a l c) (.slice none 0 0)).run Try.prog w = .ok (.bool a.isNone) w := by
  simp [binOp, equalAm w a l c]
theorem run_cloneAm (w : World) (ty : TypeId) (g0 : Nat) (hg0 : w.ownsRow g0 52 2 (.slice (some ⟨g0, 0, none⟩) 0 0) 0 []) (ad : Addr) (n c : Nat) (f : Nat → Value) (hsrc : n = 0 ∨ ∃ b off, ad = ⟨b, off, none⟩ ∧ ∀ j, j < n * 2 → w.cell? ⟨b, off + j, none⟩ = some (f j)) (h1 : ∀ j, (f j).oneCell' = true) (hn : n * 24 ≤ 140737488355328) :
    ∃ v' w', (Builtin.append_ #[27, 27] ty #[.slice (some ⟨g0, 0, none⟩) 0 0, .slice (some ad) n c]).run Try.prog w = .ok v' w' ∧ ClonIs w' g0 2 v' n f ∧ Go.RowKit.Below g0 w w' := by
  obtain ⟨i0, hi, hz0, hz1, hz2⟩ := info_parts infoAm
  have hlt : g0 < w.heap.size := (World.ownsRow.lt hg0 g0 rfl).2
  have hnews : ∀ j u, ((List.range (n * 2)).map f)[j]? = some u → w.cell? (ad.add j) = some u := by
    intro j u hu
    have hj : j < n * 2 := by
      by_cases h' : j < ((List.range (n * 2)).map f).length
      · simpa using h'
      · rw [List.getElem?_eq_none (by omega)] at hu; cases hu
    rcases hsrc with h0 | ⟨b, off, rfl, hc⟩
    · subst h0; omega
    · rw [Addr.add_lit, hc j hj]
      simpa [hj] using hu
  have h1' : ∀ u ∈ (List.range (n * 2)).map f, u.oneCell' = true := by
    intro u hu
    obtain ⟨j, _, rfl⟩ := List.mem_map.1 hu
    exact h1 j
  obtain ⟨v', w', hr, h2, h3, hnn, h5⟩ := run_append_own_at (P := Try.prog) w g0 27 ty 52 i0 _ 2 24 Try.underlying27 hi hz0 hz1 hz2 rfl (by decide) (.slice (some ⟨g0, 0, none⟩) 0 0) 0 [] hg0 ad n c ((List.range (n * 2)).map f) (by simp) hnews h1' (by unfold maxLen; omega) (by omega) (by omega)
  refine ⟨v', w', hr, ?_, (Below.refl g0 w).grown h3 (by omega) fun k hk => ?_⟩
  · rw [Nat.zero_add, List.nil_append] at h2
    have hh := h2
    rcases h2.2 with ⟨e1, e2⟩ | ⟨g, cp, cur, e1, e2, _⟩
    · exact .inl ⟨e1, e2⟩
    · subst e1
      refine .inr ⟨g, cp, rfl, e2, (World.ownsRow.lt hh g rfl).2, fun j hj => ⟨?_, World.ownsRow.frozenAt hh j⟩⟩
      rw [World.ownsRow.cellAt hh j hj]
      simp [hj]
  · simp [Value.ownBlock] at hk
    omega
set_option maxRecDepth 100000 in
set_option maxHeartbeats 1000000 in
theorem cloneAm (a : Option Addr) (n cap : Nat) (f : Nat → Value) (w : World) (hc : n = 0 ∨ ∃ b off, a = some ⟨b, off, none⟩ ∧ ∀ j, j < n * 2 → w.cell? ⟨b, off + j, none⟩ = some (f j)) (h1 : ∀ j, (f j).oneCell' = true) (hn : n * 24 ≤ 140737488355328) :
    Calls Try.prog 56 #[.slice a n cap] w fun e w' => ∃ v, e = .returned v ∧ ClonIs w' w.heap.size 2 v n f ∧ Go.RowKit.Below w.heap.size w w' := by
  cases a with
  | none =>
    have h0 : n = 0 := by
      rcases hc with h | ⟨b, off, e, _⟩
      · exact h
      · cases e
    have HZ := Lib.hid h0
    clear h0 hc hn
    have hq := eqlAm
    go_enter Try.func56, Try.ntmps56
    go_wp2_with fail
    go_ret
    exact ⟨_, rfl, .inl ⟨rfl, HZ.out⟩, Below.refl _ _⟩
  | some ad =>
    have HG0 := Lib.hid (World.ownsRow_made (w := w) (base := w.heap.size) (e := 52) (size := 2) #[] 0 (Nat.le_refl _) (Nat.zero_le _) rfl)
    have HB0 := Lib.hid (kbelow_box w (.cells #[] 52))
    have HC : Hid (n = 0 ∨ ∃ b off, ad = ⟨b, off, none⟩ ∧ ∀ j, j < n * 2 → (w.alloc (.cells #[] 52)).cell? ⟨b, off + j, none⟩ = some (f j)) := by
      rcases hc with h | ⟨b, off, e, h⟩
      · exact .inl h
      · cases e
        refine .inr ⟨b, off, rfl, fun j hj => ?_⟩
        rw [HB0.out.cell (p := ⟨b, off + j, none⟩) (oblt_of_cell (h j hj))]
        exact h j hj
    have H1 := Lib.hid h1
    have HNN := Lib.hid hn
    clear hc hn h1
    have hq := eqlAm
    go_enter Try.func56, Try.ntmps56
    go_wp2_with (first | (at_builtin; refine wpList_run_app _ rfl _ _ _ rfl rfl rfl (run_cloneAm _ _ w.heap.size HG0.out ad n cap f HC.out H1.out (by have := HNN.out; omega)) ?_; rintro v' w2 ⟨hcl, hbel⟩))
    go_ret
    exact ⟨_, rfl, hcl, HB0.out.trans hbel⟩
/-- The cells of amounts. -/
def cellA (l : List Am) (j : Nat) : Value := if j % 2 = 0 then .string (anth l (j / 2)).name else .int .i64 (anth l (j / 2)).mon
theorem cellA_one (l : List Am) (j : Nat) : (cellA l j).oneCell' = true := by unfold cellA; split <;> rfl
theorem cellA_of {w : World} {b off : Nat} {l : List Am} (h : AAt w b off l) : ∀ j, j < l.length * 2 → w.cell? ⟨b, off + j, none⟩ = some (cellA l j) := by
  intro j hj
  obtain ⟨h0, h1⟩ := h.2 (j / 2) (by omega)
  unfold cellA
  by_cases e : j % 2 = 0
  · rw [if_pos e, show off + j = off + j / 2 * 2 by omega]; exact h0
  · rw [if_neg e, show off + j = off + j / 2 * 2 + 1 by omega]; exact h1
theorem aat_of_cells {w : World} {g off : Nat} {l : List Am} (hg : g < w.heap.size) (h : ∀ j, j < l.length * 2 → w.cell? ⟨g, off + j, none⟩ = some (cellA l j)) : AAt w g off l := by
  refine ⟨hg, fun j hj => ⟨?_, ?_⟩⟩
  · have := h (j * 2) (by omega)
    unfold cellA at this
    rw [if_pos (by omega), show j * 2 / 2 = j by omega] at this
    exact this
  · have := h (j * 2 + 1) (by omega)
    unfold cellA at this
    rw [if_neg (by omega), show (j * 2 + 1) / 2 = j by omega] at this
    exact this
/-- Amounts of the call's own, from block B on, whose money may be written. -/
def Fre (w : World) (B : Nat) (a : Option Addr) (l : List Am) : Prop := l.length = 0 ∨ ∃ b off, a = some ⟨b, off, none⟩ ∧ B ≤ b ∧ b < w.heap.size ∧ ∀ i, i < l.length → w.frozen? ⟨b, off + i * 2 + 1, none⟩ = false
/-- Amounts that lie below D, and not in the block g. -/
def Off (D g : Nat) (a : Option Addr) (l : List Am) : Prop := l.length = 0 ∨ ∃ b off, a = some ⟨b, off, none⟩ ∧ b ≠ g ∧ b < D
theorem Fre.keep {w w' : World} {B D g : Nat} {a : Option Addr} {l : List Am} (h : Fre w B a l) (ho : Off D g a l) (hs : w.heap.size ≤ w'.heap.size) (hk : ∀ b off, b ≠ g → b < D → w'.frozen? ⟨b, off, none⟩ = w.frozen? ⟨b, off, none⟩) : Fre w' B a l := by
  rcases h with h | ⟨b, off, rfl, h1, h2, h3⟩
  · exact .inl h
  · rcases ho with h | ⟨b', off', e, h4, h5⟩
    · exact .inl h
    · cases e
      exact .inr ⟨b, off, rfl, h1, by omega, fun i hi => by rw [hk b _ h4 h5]; exact h3 i hi⟩
theorem PsAt.keep {w w' : World} {D g : Nat} {a : Option Addr} {l : List Am} (h : PsAt w a l) (ho : Off D g a l) (hs : w.heap.size ≤ w'.heap.size) (hk : ∀ b off, b ≠ g → b < D → w'.cell? ⟨b, off, none⟩ = w.cell? ⟨b, off, none⟩) : PsAt w' a l := by
  refine ⟨?_, h.2⟩
  rcases h.1 with h1 | ⟨b, off, rfl, hat⟩
  · exact .inl h1
  · rcases ho with h1 | ⟨b', off', e, h4, h5⟩
    · exact .inl h1
    · cases e
      exact .inr ⟨b, off, rfl, by have := hat.1; omega, fun j hj => ⟨by rw [hk b _ h4 h5]; exact (hat.2 j hj).1, by rw [hk b _ h4 h5]; exact (hat.2 j hj).2⟩⟩
/-- A slip in the row g: its cells, its totals, which are its own where it is one of the first m. -/
def RowS (w : World) (B D g m j : Nat) (r : Sl) : Prop := SlHd w g (j * 5) r ∧ ∃ (a : Option Addr) (c : Nat), w.cell? ⟨g, j * 5 + 4, none⟩ = some (.slice a r.tot.length c) ∧ PsAt w a r.tot ∧ Off D g a r.tot ∧ (j < m → Fre w B a r.tot)
/-- Slips in a row of the call's own, from block B on, that may be written; the row and all totals lie below D. -/
def OwnS (w : World) (B D m : Nat) (v : Value) (l : List Sl) : Prop := (v = .slice none 0 0 ∧ l = []) ∨ ∃ g c, v = .slice (some ⟨g, 0, none⟩) l.length c ∧ B ≤ g ∧ g < D ∧ D ≤ w.heap.size ∧ (∀ j, j < l.length → RowS w B D g m j (snth l j)) ∧ ∀ j i, j < l.length → i < 5 → w.frozen? ⟨g, j * 5 + i, none⟩ = false
theorem OwnS.slice {w : World} {B D m : Nat} {v : Value} {l : List Sl} (h : OwnS w B D m v l) : ∃ x c, v = .slice x l.length c ∧ CameS w x l := by
  rcases h with ⟨h1, h2⟩ | ⟨g, c, h1, h2, h3, h4, h5, _⟩
  · subst h2; exact ⟨none, 0, h1, .inl rfl⟩
  · refine ⟨_, c, h1, .inr ⟨g, 0, rfl, by omega, fun j hj => ?_⟩⟩
    obtain ⟨q1, a, c', q2, q3, _⟩ := h5 j hj
    rw [Nat.zero_add]
    exact ⟨q1, a, c', q2, q3⟩
theorem OwnS.at {w : World} {B D m : Nat} {x : Option Addr} {n c : Nat} {l : List Sl} (h : OwnS w B D m (.slice x n c) l) (hl : 0 < l.length) : ∃ g, x = some ⟨g, 0, none⟩ ∧ n = l.length ∧ B ≤ g ∧ g < D ∧ D ≤ w.heap.size ∧ (∀ j, j < l.length → RowS w B D g m j (snth l j)) ∧ ∀ j i, j < l.length → i < 5 → w.frozen? ⟨g, j * 5 + i, none⟩ = false := by
  rcases h with ⟨h1, h2⟩ | ⟨g, c', h1, h2, h3, h4, h5, h6⟩
  · subst h2; simp at hl
  · injection h1 with e1 e2 e3
    exact ⟨g, e1, e2, h2, h3, h4, h5, h6⟩
theorem OwnS.below {w w' : World} {B D m B2 : Nat} {v : Value} {l : List Sl} (h : OwnS w B D m v l) (hb : Go.RowKit.Below B2 w w') (hD : D ≤ B2) : OwnS w' B D m v l := by
  rcases h with h | ⟨g, c, h1, h2, h3, h4, h5, h6⟩
  · exact .inl h
  · refine .inr ⟨g, c, h1, h2, h3, Nat.le_trans h4 hb.size, fun j hj => ?_, fun j i hj hi => by rw [hb.frozen (p := ⟨g, j * 5 + i, none⟩) (show g < B2 by omega)]; exact h6 j i hj hi⟩
    obtain ⟨q1, a, c', q2, q3, q4, q5⟩ := h5 j hj
    exact ⟨q1.below hb (by omega), a, c', (hb.cell (p := ⟨g, j * 5 + 4, none⟩) (show g < B2 by omega)).trans q2, q3.keep q4 hb.size (fun b off _ hD' => hb.cell (p := ⟨b, off, none⟩) (show b < B2 by omega)), q4, fun hm => (q5 hm).keep q4 hb.size (fun b off _ hD' => hb.frozen (p := ⟨b, off, none⟩) (show b < B2 by omega))⟩
theorem OwnS.wide {w : World} {B D D2 m : Nat} {v : Value} {l : List Sl} (h : OwnS w B D m v l) (hD : D ≤ D2) (h2 : D2 ≤ w.heap.size) : OwnS w B D2 m v l := by
  rcases h with h | ⟨g, c, h1, h2, h3, h4, h5, h6⟩
  · exact .inl h
  · refine .inr ⟨g, c, h1, h2, by omega, by omega, fun j hj => ?_, h6⟩
    obtain ⟨q1, a, c', q2, q3, q4, q5⟩ := h5 j hj
    refine ⟨q1, a, c', q2, q3, ?_, q5⟩
    rcases q4 with q4 | ⟨b, off, e, r1, r2⟩
    · exact .inl q4
    · exact .inr ⟨b, off, e, r1, by omega⟩
theorem snth_ext {a b : List Sl} (h : a.length = b.length) (k : ∀ j, j < a.length → snth a j = snth b j) : a = b := by
  apply List.ext_getElem h
  intro j h1 h2
  have := k j h1
  simpa [snth, List.getD_eq_getElem?_getD, h1, h2] using this
/-- The totals of one slip are put anew. -/
theorem OwnS.putTot {w : World} {B D g n c m : Nat} {l : List Sl} (h : OwnS w B D m (.slice (some ⟨g, 0, none⟩) n c) l) (hm : m < l.length) (x : Option Addr) (cx : Nat) (hp : PsAt w x (snth l m).tot) (ho : Off D g x (snth l m).tot) (hf : Fre w B x (snth l m).tot) :
    OwnS (w.setCell ⟨g, m * 5 + 4, none⟩ (.slice x (snth l m).tot.length cx)) B D (m + 1) (.slice (some ⟨g, 0, none⟩) n c) l := by
  obtain ⟨g', e, hn, hB, hD, hW, hr, hfz⟩ := h.at (by omega)
  cases e
  have other : ∀ o, o ≠ m * 5 + 4 → (w.setCell ⟨g, m * 5 + 4, none⟩ (.slice x (snth l m).tot.length cx)).cell? ⟨g, o, none⟩ = w.cell? ⟨g, o, none⟩ := fun o ho => by
    rw [World.cell?_setCell_other (h := fun e => by injection e; omega)]
  have off : ∀ b o, b ≠ g → b < D → (w.setCell ⟨g, m * 5 + 4, none⟩ (.slice x (snth l m).tot.length cx)).cell? ⟨b, o, none⟩ = w.cell? ⟨b, o, none⟩ := fun b o ho _ => by
    rw [World.cell?_setCell_other (h := fun e => by injection e; omega)]
  have fz : ∀ p, (w.setCell ⟨g, m * 5 + 4, none⟩ (.slice x (snth l m).tot.length cx)).frozen? p = w.frozen? p := fun p => by rw [World.frozen?_setCell]
  refine .inr ⟨g, c, by rw [hn], hB, hD, by simpa using hW, fun j hj => ?_, fun j i hj hi => by rw [fz]; exact hfz j i hj hi⟩
  obtain ⟨⟨c0, c1, c2, c3⟩, a, c', q2, q3, q4, q5⟩ := hr j hj
  refine ⟨⟨(other _ (by omega)).trans c0, (other _ (by omega)).trans c1, (other _ (by omega)).trans c2, (other _ (by omega)).trans c3⟩, ?_⟩
  by_cases e : j = m
  · subst e
    exact ⟨x, cx, World.cell?_setCell_same _ _ _ q2, hp.keep ho (by simp) off, ho, fun _ => hf.keep ho (by simp) (fun b o _ _ => fz _)⟩
  · exact ⟨a, c', (other _ (by omega)).trans q2, q3.keep q4 (by simp) off, q4, fun hj2 => (q5 (by omega)).keep q4 (by simp) (fun b o _ _ => fz _)⟩
/-- A slip that becomes void. -/
def goneS (r : Sl) : Sl := ⟨r.num, r.per, r.run, true, r.tot⟩
theorem OwnS.putGone {w : World} {B D g n c m : Nat} {l l' : List Sl} (h : OwnS w B D m (.slice (some ⟨g, 0, none⟩) n c) l) {k : Nat} (hk : k < l.length) (hl : l'.length = l.length) (hg : ∀ j, j < l.length → snth l' j = if j = k then goneS (snth l k) else snth l j) :
    OwnS (w.setCell ⟨g, k * 5 + 3, none⟩ (.bool true)) B D m (.slice (some ⟨g, 0, none⟩) n c) l' := by
  obtain ⟨g', e, hn, hB, hD, hW, hr, hfz⟩ := h.at (by omega)
  cases e
  have other : ∀ o, o ≠ k * 5 + 3 → (w.setCell ⟨g, k * 5 + 3, none⟩ (.bool true)).cell? ⟨g, o, none⟩ = w.cell? ⟨g, o, none⟩ := fun o ho => by
    rw [World.cell?_setCell_other (h := fun e => by injection e; omega)]
  have off : ∀ b o, b ≠ g → b < D → (w.setCell ⟨g, k * 5 + 3, none⟩ (.bool true)).cell? ⟨b, o, none⟩ = w.cell? ⟨b, o, none⟩ := fun b o ho _ => by
    rw [World.cell?_setCell_other (h := fun e => by injection e; omega)]
  have fz : ∀ p, (w.setCell ⟨g, k * 5 + 3, none⟩ (.bool true)).frozen? p = w.frozen? p := fun p => by rw [World.frozen?_setCell]
  refine .inr ⟨g, c, by rw [hn, hl], hB, hD, by simpa using hW, fun j hj => ?_, fun j i hj hi => by rw [fz]; exact hfz j i (by omega) hi⟩
  rw [hl] at hj
  obtain ⟨⟨c0, c1, c2, c3⟩, a, c', q2, q3, q4, q5⟩ := hr j hj
  rw [hg j hj]
  by_cases e : j = k
  · subst e
    rw [if_pos rfl]
    exact ⟨⟨(other _ (by omega)).trans c0, (other _ (by omega)).trans c1, (other _ (by omega)).trans c2, World.cell?_setCell_same _ _ _ c3⟩, a, c', (other _ (by omega)).trans q2, q3.keep q4 (by simp) off, q4, fun hj2 => (q5 hj2).keep q4 (by simp) (fun b o _ _ => fz _)⟩
  · rw [if_neg e]
    exact ⟨⟨(other _ (by omega)).trans c0, (other _ (by omega)).trans c1, (other _ (by omega)).trans c2, (other _ (by omega)).trans c3⟩, a, c', (other _ (by omega)).trans q2, q3.keep q4 (by simp) off, q4, fun hj2 => (q5 hj2).keep q4 (by simp) (fun b o _ _ => fz _)⟩
end Go.Proofs.Ytiedlmhahdnhaaa
