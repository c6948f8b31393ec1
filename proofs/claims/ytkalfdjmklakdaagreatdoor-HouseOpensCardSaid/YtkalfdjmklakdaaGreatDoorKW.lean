/-
  Promises V2, V6: what slices.Clone makes of lists of brackets, rows, amounts and postings.
  Promises V2, V6: the copies of a company's lists.
-/
import Derived.Test.YtkalfdjmklakdaaGreatDoorKVF
import Derived.Test.YtkalfdjmklakdaaGreatDoorKFM
import Derived.Maps.AppendAt
import Derived.Deep.RegionLaw
import Derived.Lib.Walk
namespace Go.Proofs.YtkalfdjmklakdaaGreatDoor
open Go.RowKit Go.Sort
def ClonIs (w : World) (B K : Nat) (v : Value) (n : Nat) (f : Nat → Value) : Prop := (v = .slice none 0 0 ∧ n = 0) ∨ ∃ g c, v = .slice (some ⟨g, 0, none⟩) n c ∧ B ≤ g ∧ g < w.heap.size ∧ ∀ j, j < n * K → w.cell? ⟨g, j, none⟩ = some (f j) ∧ w.frozen? ⟨g, j, none⟩ = false
theorem oblt_of_cell {W : World} {p : Addr} {v : Value} (h : W.cell? p = some v) : p.block < W.heap.size := blt_of_cell h
theorem infoBk : (Tryz.prog.info? 189).map (fun i => (i.zero, i.size, i.bytes)) = some (some (.agg #[.int .i64 0, .int .i64 0]), 2, 16) := by kernel_rfl
theorem eqInBk (w : World) (d : Nat) (a : Option Addr) (l c : Nat) : (Op.equalIn (d + 1) 133 (.slice a l c) (.slice none 0 0)).run Tryz.prog w = .ok a.isNone w := by
 cases a <;> simp [Op.equalIn, run_underlying Tryz.underlying133]
theorem equalBk (w : World) (a : Option Addr) (l c : Nat) : (Op.equal 133 (.slice a l c) (.slice none 0 0)).run Tryz.prog w = .ok a.isNone w := eqInBk w 9999 a l c
theorem eqlBk (w : World) (a : Option Addr) (l c : Nat) : (binOp .eql 133 (.slice a l c) (.slice none 0 0)).run Tryz.prog w = .ok (.bool a.isNone) w := by
 simp [binOp, equalBk w a l c]
theorem run_cloneBk (w : World) (ty : TypeId) (g0 : Nat) (hg0 : w.ownsRow g0 189 2 (.slice (some ⟨g0, 0, none⟩) 0 0) 0 []) (ad : Addr) (n c : Nat) (f : Nat → Value) (hsrc : n = 0 ∨ ∃ b off, ad = ⟨b, off, none⟩ ∧ ∀ j, j < n * 2 → w.cell? ⟨b, off + j, none⟩ = some (f j)) (h1 : ∀ j, (f j).oneCell' = true) (hn : n * 16 ≤ 140737488355328) :
 ∃ v' w', (Builtin.append_ #[133, 133] ty #[.slice (some ⟨g0, 0, none⟩) 0 0, .slice (some ad) n c]).run Tryz.prog w = .ok v' w' ∧ ClonIs w' g0 2 v' n f ∧ Go.RowKit.Below g0 w w' := by
 obtain ⟨i0, hi, hz0, hz1, hz2⟩ := info_parts infoBk
 have hlt : g0 < w.heap.size := (World.ownsRow.lt hg0 g0 rfl).2
 have hnews : ∀ j u, ((List.range (n * 2)).map f)[j]? = some u → w.cell? (ad.add j) = some u := by
  intro j u hu
  have hj : j < n * 2 := by
   by_cases h' : j < ((List.range (n * 2)).map f).length
   ·simpa using h'
   ·rw [List.getElem?_eq_none (by omega)] at hu; cases hu
  rcases hsrc with h0 | ⟨b, off, rfl, hc⟩
  ·subst h0; omega
  ·rw [Addr.add_lit, hc j hj]
   simpa [hj] using hu
 have h1' : ∀ u ∈ (List.range (n * 2)).map f, u.oneCell' = true := by
  intro u hu
  obtain ⟨j, _, rfl⟩ := List.mem_map.1 hu
  exact h1 j
 obtain ⟨v', w', hr, h2, h3, hnn, h5⟩ := run_append_own_at (P := Tryz.prog) w g0 133 ty 189 i0 _ 2 16 Tryz.underlying133 hi hz0 hz1 hz2 rfl (by decide) (.slice (some ⟨g0, 0, none⟩) 0 0) 0 [] hg0 ad n c ((List.range (n * 2)).map f) (by simp) hnews h1' (by unfold maxLen; omega) (by omega) (by omega)
 refine ⟨v', w', hr, ?_, (Below.refl g0 w).grown h3 (by omega) fun k hk => ?_⟩
 ·rw [Nat.zero_add, List.nil_append] at h2
  have hh := h2
  rcases h2.2 with ⟨e1, e2⟩ | ⟨g, cp, cur, e1, e2, _⟩
  ·exact .inl ⟨e1, e2⟩
  ·subst e1
   refine .inr ⟨g, cp, rfl, e2, (World.ownsRow.lt hh g rfl).2, fun j hj => ⟨?_, World.ownsRow.frozenAt hh j⟩⟩
   rw [World.ownsRow.cellAt hh j hj]
   simp [hj]
 ·simp [Value.ownBlock] at hk
  omega
set_option maxRecDepth 100000 in
set_option maxHeartbeats 1000000 in
theorem cloneBk (a : Option Addr) (n cap : Nat) (f : Nat → Value) (w : World) (hc : n = 0 ∨ ∃ b off, a = some ⟨b, off, none⟩ ∧ ∀ j, j < n * 2 → w.cell? ⟨b, off + j, none⟩ = some (f j)) (h1 : ∀ j, (f j).oneCell' = true) (hn : n * 16 ≤ 140737488355328) :
 Calls Tryz.prog 164 #[.slice a n cap] w fun e w' => ∃ v, e = .returned v ∧ ClonIs w' w.heap.size 2 v n f ∧ Go.RowKit.Below w.heap.size w w' := by
 cases a with
 | none =>
   have h0 : n = 0 := by
    rcases hc with h | ⟨b, off, e, _⟩
    ·exact h
    ·cases e
   have HZ := Lib.hid h0
   clear h0 hc hn
   have hq := eqlBk
   go_enter Tryz.func164, Tryz.ntmps164
   go_wp2_with fail
   go_ret
   exact ⟨_, rfl, .inl ⟨rfl, HZ.out⟩, Below.refl _ _⟩
 | some ad =>
   have HG0 := Lib.hid (World.ownsRow_made (w := w) (base := w.heap.size) (e := 189) (size := 2) #[] 0 (Nat.le_refl _) (Nat.zero_le _) rfl)
   have HB0 := Lib.hid (kbelow_box w (.cells #[] 189))
   have HC : Hid (n = 0 ∨ ∃ b off, ad = ⟨b, off, none⟩ ∧ ∀ j, j < n * 2 → (w.alloc (.cells #[] 189)).cell? ⟨b, off + j, none⟩ = some (f j)) := by
    rcases hc with h | ⟨b, off, e, h⟩
    ·exact .inl h
    ·cases e
     refine .inr ⟨b, off, rfl, fun j hj => ?_⟩
     rw [HB0.out.cell (p := ⟨b, off + j, none⟩) (oblt_of_cell (h j hj))]
     exact h j hj
   have H1 := Lib.hid h1
   have HNN := Lib.hid hn
   clear hc hn h1
   have hq := eqlBk
   go_enter Tryz.func164, Tryz.ntmps164
   go_wp2_with (first | (at_builtin; refine wpList_run_app _ rfl _ _ _ rfl rfl rfl (run_cloneBk _ _ w.heap.size HG0.out ad n cap f HC.out H1.out (by have := HNN.out; omega)) ?_; rintro v' w2 ⟨hcl, hbel⟩))
   go_ret
   exact ⟨_, rfl, hcl, HB0.out.trans hbel⟩
theorem infoRw : (Tryz.prog.info? 52).map (fun i => (i.zero, i.size, i.bytes)) = some (some (.agg #[.int .i64 0, .int .i64 0, .int .i64 0, .bool false]), 4, 32) := by kernel_rfl
theorem eqInRw (w : World) (d : Nat) (a : Option Addr) (l c : Nat) : (Op.equalIn (d + 1) 58 (.slice a l c) (.slice none 0 0)).run Tryz.prog w = .ok a.isNone w := by
 cases a <;> simp [Op.equalIn, run_underlying Tryz.underlying58]
theorem equalRw (w : World) (a : Option Addr) (l c : Nat) : (Op.equal 58 (.slice a l c) (.slice none 0 0)).run Tryz.prog w = .ok a.isNone w := eqInRw w 9999 a l c
theorem eqlRw (w : World) (a : Option Addr) (l c : Nat) : (binOp .eql 58 (.slice a l c) (.slice none 0 0)).run Tryz.prog w = .ok (.bool a.isNone) w := by
 simp [binOp, equalRw w a l c]
theorem run_cloneRw (w : World) (ty : TypeId) (g0 : Nat) (hg0 : w.ownsRow g0 52 4 (.slice (some ⟨g0, 0, none⟩) 0 0) 0 []) (ad : Addr) (n c : Nat) (f : Nat → Value) (hsrc : n = 0 ∨ ∃ b off, ad = ⟨b, off, none⟩ ∧ ∀ j, j < n * 4 → w.cell? ⟨b, off + j, none⟩ = some (f j)) (h1 : ∀ j, (f j).oneCell' = true) (hn : n * 32 ≤ 140737488355328) :
 ∃ v' w', (Builtin.append_ #[58, 58] ty #[.slice (some ⟨g0, 0, none⟩) 0 0, .slice (some ad) n c]).run Tryz.prog w = .ok v' w' ∧ ClonIs w' g0 4 v' n f ∧ Go.RowKit.Below g0 w w' := by
 obtain ⟨i0, hi, hz0, hz1, hz2⟩ := info_parts infoRw
 have hlt : g0 < w.heap.size := (World.ownsRow.lt hg0 g0 rfl).2
 have hnews : ∀ j u, ((List.range (n * 4)).map f)[j]? = some u → w.cell? (ad.add j) = some u := by
  intro j u hu
  have hj : j < n * 4 := by
   by_cases h' : j < ((List.range (n * 4)).map f).length
   ·simpa using h'
   ·rw [List.getElem?_eq_none (by omega)] at hu; cases hu
  rcases hsrc with h0 | ⟨b, off, rfl, hc⟩
  ·subst h0; omega
  ·rw [Addr.add_lit, hc j hj]
   simpa [hj] using hu
 have h1' : ∀ u ∈ (List.range (n * 4)).map f, u.oneCell' = true := by
  intro u hu
  obtain ⟨j, _, rfl⟩ := List.mem_map.1 hu
  exact h1 j
 obtain ⟨v', w', hr, h2, h3, hnn, h5⟩ := run_append_own_at (P := Tryz.prog) w g0 58 ty 52 i0 _ 4 32 Tryz.underlying58 hi hz0 hz1 hz2 rfl (by decide) (.slice (some ⟨g0, 0, none⟩) 0 0) 0 [] hg0 ad n c ((List.range (n * 4)).map f) (by simp) hnews h1' (by unfold maxLen; omega) (by omega) (by omega)
 refine ⟨v', w', hr, ?_, (Below.refl g0 w).grown h3 (by omega) fun k hk => ?_⟩
 ·rw [Nat.zero_add, List.nil_append] at h2
  have hh := h2
  rcases h2.2 with ⟨e1, e2⟩ | ⟨g, cp, cur, e1, e2, _⟩
  ·exact .inl ⟨e1, e2⟩
  ·subst e1
   refine .inr ⟨g, cp, rfl, e2, (World.ownsRow.lt hh g rfl).2, fun j hj => ⟨?_, World.ownsRow.frozenAt hh j⟩⟩
   rw [World.ownsRow.cellAt hh j hj]
   simp [hj]
 ·simp [Value.ownBlock] at hk
  omega
set_option maxRecDepth 100000 in
set_option maxHeartbeats 1000000 in
theorem cloneRw (a : Option Addr) (n cap : Nat) (f : Nat → Value) (w : World) (hc : n = 0 ∨ ∃ b off, a = some ⟨b, off, none⟩ ∧ ∀ j, j < n * 4 → w.cell? ⟨b, off + j, none⟩ = some (f j)) (h1 : ∀ j, (f j).oneCell' = true) (hn : n * 32 ≤ 140737488355328) :
 Calls Tryz.prog 209 #[.slice a n cap] w fun e w' => ∃ v, e = .returned v ∧ ClonIs w' w.heap.size 4 v n f ∧ Go.RowKit.Below w.heap.size w w' := by
 cases a with
 | none =>
   have h0 : n = 0 := by
    rcases hc with h | ⟨b, off, e, _⟩
    ·exact h
    ·cases e
   have HZ := Lib.hid h0
   clear h0 hc hn
   have hq := eqlRw
   go_enter Tryz.func209, Tryz.ntmps209
   go_wp2_with fail
   go_ret
   exact ⟨_, rfl, .inl ⟨rfl, HZ.out⟩, Below.refl _ _⟩
 | some ad =>
   have HG0 := Lib.hid (World.ownsRow_made (w := w) (base := w.heap.size) (e := 52) (size := 4) #[] 0 (Nat.le_refl _) (Nat.zero_le _) rfl)
   have HB0 := Lib.hid (kbelow_box w (.cells #[] 52))
   have HC : Hid (n = 0 ∨ ∃ b off, ad = ⟨b, off, none⟩ ∧ ∀ j, j < n * 4 → (w.alloc (.cells #[] 52)).cell? ⟨b, off + j, none⟩ = some (f j)) := by
    rcases hc with h | ⟨b, off, e, h⟩
    ·exact .inl h
    ·cases e
     refine .inr ⟨b, off, rfl, fun j hj => ?_⟩
     rw [HB0.out.cell (p := ⟨b, off + j, none⟩) (oblt_of_cell (h j hj))]
     exact h j hj
   have H1 := Lib.hid h1
   have HNN := Lib.hid hn
   clear hc hn h1
   have hq := eqlRw
   go_enter Tryz.func209, Tryz.ntmps209
   go_wp2_with (first | (at_builtin; refine wpList_run_app _ rfl _ _ _ rfl rfl rfl (run_cloneRw _ _ w.heap.size HG0.out ad n cap f HC.out H1.out (by have := HNN.out; omega)) ?_; rintro v' w2 ⟨hcl, hbel⟩))
   go_ret
   exact ⟨_, rfl, hcl, HB0.out.trans hbel⟩
theorem infoAm : (Tryz.prog.info? 87).map (fun i => (i.zero, i.size, i.bytes)) = some (some (.agg #[.string ⟨#[]⟩, .int .i64 0]), 2, 24) := by kernel_rfl
theorem eqInAm (w : World) (d : Nat) (a : Option Addr) (l c : Nat) : (Op.equalIn (d + 1) 82 (.slice a l c) (.slice none 0 0)).run Tryz.prog w = .ok a.isNone w := by
 cases a <;> simp [Op.equalIn, run_underlying Tryz.underlying82]
theorem equalAm (w : World) (a : Option Addr) (l c : Nat) : (Op.equal 82 (.slice a l c) (.slice none 0 0)).run Tryz.prog w = .ok a.isNone w := eqInAm w 9999 a l c
theorem eqlAm (w : World) (a : Option Addr) (l c : Nat) : (binOp .eql 82 (.slice a l c) (.slice none 0 0)).run Tryz.prog w = .ok (.bool a.isNone) w := by
 simp [binOp, equalAm w a l c]
theorem run_cloneAm (w : World) (ty : TypeId) (g0 : Nat) (hg0 : w.ownsRow g0 87 2 (.slice (some ⟨g0, 0, none⟩) 0 0) 0 []) (ad : Addr) (n c : Nat) (f : Nat → Value) (hsrc : n = 0 ∨ ∃ b off, ad = ⟨b, off, none⟩ ∧ ∀ j, j < n * 2 → w.cell? ⟨b, off + j, none⟩ = some (f j)) (h1 : ∀ j, (f j).oneCell' = true) (hn : n * 24 ≤ 140737488355328) :
 ∃ v' w', (Builtin.append_ #[82, 82] ty #[.slice (some ⟨g0, 0, none⟩) 0 0, .slice (some ad) n c]).run Tryz.prog w = .ok v' w' ∧ ClonIs w' g0 2 v' n f ∧ Go.RowKit.Below g0 w w' := by
 obtain ⟨i0, hi, hz0, hz1, hz2⟩ := info_parts infoAm
 have hlt : g0 < w.heap.size := (World.ownsRow.lt hg0 g0 rfl).2
 have hnews : ∀ j u, ((List.range (n * 2)).map f)[j]? = some u → w.cell? (ad.add j) = some u := by
  intro j u hu
  have hj : j < n * 2 := by
   by_cases h' : j < ((List.range (n * 2)).map f).length
   ·simpa using h'
   ·rw [List.getElem?_eq_none (by omega)] at hu; cases hu
  rcases hsrc with h0 | ⟨b, off, rfl, hc⟩
  ·subst h0; omega
  ·rw [Addr.add_lit, hc j hj]
   simpa [hj] using hu
 have h1' : ∀ u ∈ (List.range (n * 2)).map f, u.oneCell' = true := by
  intro u hu
  obtain ⟨j, _, rfl⟩ := List.mem_map.1 hu
  exact h1 j
 obtain ⟨v', w', hr, h2, h3, hnn, h5⟩ := run_append_own_at (P := Tryz.prog) w g0 82 ty 87 i0 _ 2 24 Tryz.underlying82 hi hz0 hz1 hz2 rfl (by decide) (.slice (some ⟨g0, 0, none⟩) 0 0) 0 [] hg0 ad n c ((List.range (n * 2)).map f) (by simp) hnews h1' (by unfold maxLen; omega) (by omega) (by omega)
 refine ⟨v', w', hr, ?_, (Below.refl g0 w).grown h3 (by omega) fun k hk => ?_⟩
 ·rw [Nat.zero_add, List.nil_append] at h2
  have hh := h2
  rcases h2.2 with ⟨e1, e2⟩ | ⟨g, cp, cur, e1, e2, _⟩
  ·exact .inl ⟨e1, e2⟩
  ·subst e1
   refine .inr ⟨g, cp, rfl, e2, (World.ownsRow.lt hh g rfl).2, fun j hj => ⟨?_, World.ownsRow.frozenAt hh j⟩⟩
   rw [World.ownsRow.cellAt hh j hj]
   simp [hj]
 ·simp [Value.ownBlock] at hk
  omega
set_option maxRecDepth 100000 in
set_option maxHeartbeats 1000000 in
theorem cloneAm (a : Option Addr) (n cap : Nat) (f : Nat → Value) (w : World) (hc : n = 0 ∨ ∃ b off, a = some ⟨b, off, none⟩ ∧ ∀ j, j < n * 2 → w.cell? ⟨b, off + j, none⟩ = some (f j)) (h1 : ∀ j, (f j).oneCell' = true) (hn : n * 24 ≤ 140737488355328) :
 Calls Tryz.prog 167 #[.slice a n cap] w fun e w' => ∃ v, e = .returned v ∧ ClonIs w' w.heap.size 2 v n f ∧ Go.RowKit.Below w.heap.size w w' := by
 cases a with
 | none =>
   have h0 : n = 0 := by
    rcases hc with h | ⟨b, off, e, _⟩
    ·exact h
    ·cases e
   have HZ := Lib.hid h0
   clear h0 hc hn
   have hq := eqlAm
   go_enter Tryz.func167, Tryz.ntmps167
   go_wp2_with fail
   go_ret
   exact ⟨_, rfl, .inl ⟨rfl, HZ.out⟩, Below.refl _ _⟩
 | some ad =>
   have HG0 := Lib.hid (World.ownsRow_made (w := w) (base := w.heap.size) (e := 87) (size := 2) #[] 0 (Nat.le_refl _) (Nat.zero_le _) rfl)
   have HB0 := Lib.hid (kbelow_box w (.cells #[] 87))
   have HC : Hid (n = 0 ∨ ∃ b off, ad = ⟨b, off, none⟩ ∧ ∀ j, j < n * 2 → (w.alloc (.cells #[] 87)).cell? ⟨b, off + j, none⟩ = some (f j)) := by
    rcases hc with h | ⟨b, off, e, h⟩
    ·exact .inl h
    ·cases e
     refine .inr ⟨b, off, rfl, fun j hj => ?_⟩
     rw [HB0.out.cell (p := ⟨b, off + j, none⟩) (oblt_of_cell (h j hj))]
     exact h j hj
   have H1 := Lib.hid h1
   have HNN := Lib.hid hn
   clear hc hn h1
   have hq := eqlAm
   go_enter Tryz.func167, Tryz.ntmps167
   go_wp2_with (first | (at_builtin; refine wpList_run_app _ rfl _ _ _ rfl rfl rfl (run_cloneAm _ _ w.heap.size HG0.out ad n cap f HC.out H1.out (by have := HNN.out; omega)) ?_; rintro v' w2 ⟨hcl, hbel⟩))
   go_ret
   exact ⟨_, rfl, hcl, HB0.out.trans hbel⟩
theorem infoPo : (Tryz.prog.info? 179).map (fun i => (i.zero, i.size, i.bytes)) = some (some (.agg #[.string ⟨#[]⟩, .int .i64 0]), 2, 24) := by kernel_rfl
theorem eqInPo (w : World) (d : Nat) (a : Option Addr) (l c : Nat) : (Op.equalIn (d + 1) 89 (.slice a l c) (.slice none 0 0)).run Tryz.prog w = .ok a.isNone w := by
 cases a <;> simp [Op.equalIn, run_underlying Tryz.underlying89]
theorem equalPo (w : World) (a : Option Addr) (l c : Nat) : (Op.equal 89 (.slice a l c) (.slice none 0 0)).run Tryz.prog w = .ok a.isNone w := eqInPo w 9999 a l c
theorem eqlPo (w : World) (a : Option Addr) (l c : Nat) : (binOp .eql 89 (.slice a l c) (.slice none 0 0)).run Tryz.prog w = .ok (.bool a.isNone) w := by
 simp [binOp, equalPo w a l c]
theorem run_clonePo (w : World) (ty : TypeId) (g0 : Nat) (hg0 : w.ownsRow g0 179 2 (.slice (some ⟨g0, 0, none⟩) 0 0) 0 []) (ad : Addr) (n c : Nat) (f : Nat → Value) (hsrc : n = 0 ∨ ∃ b off, ad = ⟨b, off, none⟩ ∧ ∀ j, j < n * 2 → w.cell? ⟨b, off + j, none⟩ = some (f j)) (h1 : ∀ j, (f j).oneCell' = true) (hn : n * 24 ≤ 140737488355328) :
 ∃ v' w', (Builtin.append_ #[89, 89] ty #[.slice (some ⟨g0, 0, none⟩) 0 0, .slice (some ad) n c]).run Tryz.prog w = .ok v' w' ∧ ClonIs w' g0 2 v' n f ∧ Go.RowKit.Below g0 w w' := by
 obtain ⟨i0, hi, hz0, hz1, hz2⟩ := info_parts infoPo
 have hlt : g0 < w.heap.size := (World.ownsRow.lt hg0 g0 rfl).2
 have hnews : ∀ j u, ((List.range (n * 2)).map f)[j]? = some u → w.cell? (ad.add j) = some u := by
  intro j u hu
  have hj : j < n * 2 := by
   by_cases h' : j < ((List.range (n * 2)).map f).length
   ·simpa using h'
   ·rw [List.getElem?_eq_none (by omega)] at hu; cases hu
  rcases hsrc with h0 | ⟨b, off, rfl, hc⟩
  ·subst h0; omega
  ·rw [Addr.add_lit, hc j hj]
   simpa [hj] using hu
 have h1' : ∀ u ∈ (List.range (n * 2)).map f, u.oneCell' = true := by
  intro u hu
  obtain ⟨j, _, rfl⟩ := List.mem_map.1 hu
  exact h1 j
 obtain ⟨v', w', hr, h2, h3, hnn, h5⟩ := run_append_own_at (P := Tryz.prog) w g0 89 ty 179 i0 _ 2 24 Tryz.underlying89 hi hz0 hz1 hz2 rfl (by decide) (.slice (some ⟨g0, 0, none⟩) 0 0) 0 [] hg0 ad n c ((List.range (n * 2)).map f) (by simp) hnews h1' (by unfold maxLen; omega) (by omega) (by omega)
 refine ⟨v', w', hr, ?_, (Below.refl g0 w).grown h3 (by omega) fun k hk => ?_⟩
 ·rw [Nat.zero_add, List.nil_append] at h2
  have hh := h2
  rcases h2.2 with ⟨e1, e2⟩ | ⟨g, cp, cur, e1, e2, _⟩
  ·exact .inl ⟨e1, e2⟩
  ·subst e1
   refine .inr ⟨g, cp, rfl, e2, (World.ownsRow.lt hh g rfl).2, fun j hj => ⟨?_, World.ownsRow.frozenAt hh j⟩⟩
   rw [World.ownsRow.cellAt hh j hj]
   simp [hj]
 ·simp [Value.ownBlock] at hk
  omega
set_option maxRecDepth 100000 in
set_option maxHeartbeats 1000000 in
theorem clonePo (a : Option Addr) (n cap : Nat) (f : Nat → Value) (w : World) (hc : n = 0 ∨ ∃ b off, a = some ⟨b, off, none⟩ ∧ ∀ j, j < n * 2 → w.cell? ⟨b, off + j, none⟩ = some (f j)) (h1 : ∀ j, (f j).oneCell' = true) (hn : n * 24 ≤ 140737488355328) :
 Calls Tryz.prog 168 #[.slice a n cap] w fun e w' => ∃ v, e = .returned v ∧ ClonIs w' w.heap.size 2 v n f ∧ Go.RowKit.Below w.heap.size w w' := by
 cases a with
 | none =>
   have h0 : n = 0 := by
    rcases hc with h | ⟨b, off, e, _⟩
    ·exact h
    ·cases e
   have HZ := Lib.hid h0
   clear h0 hc hn
   have hq := eqlPo
   go_enter Tryz.func168, Tryz.ntmps168
   go_wp2_with fail
   go_ret
   exact ⟨_, rfl, .inl ⟨rfl, HZ.out⟩, Below.refl _ _⟩
 | some ad =>
   have HG0 := Lib.hid (World.ownsRow_made (w := w) (base := w.heap.size) (e := 179) (size := 2) #[] 0 (Nat.le_refl _) (Nat.zero_le _) rfl)
   have HB0 := Lib.hid (kbelow_box w (.cells #[] 179))
   have HC : Hid (n = 0 ∨ ∃ b off, ad = ⟨b, off, none⟩ ∧ ∀ j, j < n * 2 → (w.alloc (.cells #[] 179)).cell? ⟨b, off + j, none⟩ = some (f j)) := by
    rcases hc with h | ⟨b, off, e, h⟩
    ·exact .inl h
    ·cases e
     refine .inr ⟨b, off, rfl, fun j hj => ?_⟩
     rw [HB0.out.cell (p := ⟨b, off + j, none⟩) (oblt_of_cell (h j hj))]
     exact h j hj
   have H1 := Lib.hid h1
   have HNN := Lib.hid hn
   clear hc hn h1
   have hq := eqlPo
   go_enter Tryz.func168, Tryz.ntmps168
   go_wp2_with (first | (at_builtin; refine wpList_run_app _ rfl _ _ _ rfl rfl rfl (run_clonePo _ _ w.heap.size HG0.out ad n cap f HC.out H1.out (by have := HNN.out; omega)) ?_; rintro v' w2 ⟨hcl, hbel⟩))
   go_ret
   exact ⟨_, rfl, hcl, HB0.out.trans hbel⟩
def flatV (K : Nat) (E : Nat → List Value) (i : Nat) : Value := (E (i / K)).getD (i % K) (.int .i64 0)
theorem flatV_src {K n : Nat} {E : Nat → List Value} {w : World} {b off : Nat} (hE : ∀ j, (E j).length = K) (h : ∀ j, j < n → CellsV w b (off + j * K) (E j)) : ∀ i, i < n * K → w.cell? ⟨b, off + i, none⟩ = some (flatV K E i) := by
 intro i hi
 have h0 : 0 < K := by
  rcases Nat.eq_zero_or_pos K with e | e
  ·subst e; omega
  ·exact e
 have hj : i / K < n := Nat.div_lt_of_lt_mul (by rw [Nat.mul_comm]; exact hi)
 have hm : i % K < (E (i / K)).length := by rw [hE]; exact Nat.mod_lt _ h0
 have e : off + i = off + i / K * K + i % K := by have := Nat.div_add_mod i K; rw [Nat.mul_comm] at this; omega
 rw [e]
 refine (h _ hj (i % K) _ (List.getElem?_eq_getElem hm)).trans ?_
 unfold flatV
 rw [List.getD_eq_getElem?_getD, List.getElem?_eq_getElem hm]
 rfl
theorem flatV_back {K n : Nat} {E : Nat → List Value} {w : World} {b : Nat} (hE : ∀ j, (E j).length = K) (h : ∀ i, i < n * K → w.cell? ⟨b, i, none⟩ = some (flatV K E i)) : ∀ j, j < n → CellsV w b (j * K) (E j) := by
 intro j hj i v hv
 have hi : i < K := by
  by_cases hi : i < K
  ·exact hi
  ·rw [List.getElem?_eq_none (by rw [hE]; omega)] at hv; cases hv
 have hk : (j + 1) * K ≤ n * K := Nat.mul_le_mul_right K hj
 rw [Nat.add_mul, Nat.one_mul] at hk
 rw [h (j * K + i) (by omega)]
 have h1 : (j * K + i) / K = j := by
  rw [Nat.mul_comm, Nat.mul_add_div (by omega), Nat.div_eq_of_lt hi]; omega
 have h2 : (j * K + i) % K = i := by
  rw [Nat.mul_comm, Nat.mul_add_mod, Nat.mod_eq_of_lt hi]
 unfold flatV
 rw [h1, h2, List.getD_eq_getElem?_getD, hv]
 rfl
theorem flatV_one {K : Nat} {E : Nat → List Value} (h : ∀ j, ∀ v ∈ E j, v.oneCell' = true) : ∀ i, (flatV K E i).oneCell' = true := by
 intro i
 unfold flatV
 rw [List.getD_eq_getElem?_getD]
 cases hg : (E (i / K))[i % K]? with
 | none => rfl
 | some v => exact h _ v (List.mem_of_getElem? hg)
theorem clBk (a : Option Addr) (n cap : Nat) (E : Nat → List Value) (hE : ∀ j, (E j).length = 2) (h1 : ∀ j, ∀ v ∈ E j, v.oneCell' = true) (w : World) (hsrc : n = 0 ∨ ∃ b off, a = some ⟨b, off, none⟩ ∧ ∀ j, j < n → CellsV w b (off + j * 2) (E j)) (hby : n * 16 ≤ 140737488355328) :
 Calls Tryz.prog 164 #[.slice a n cap] w fun e w' => ∃ (ay : Option Addr) (cy : Nat), e = .returned (.slice ay n cy) ∧ FrP w.heap.size w'.heap.size w' (fun z => n = 0 ∨ ∃ g, ay = some ⟨g, 0, none⟩ ∧ g < z.heap.size ∧ ∀ j, j < n → CellsV z g (j * 2) (E j)) ∧ Below w.heap.size w w' := by
 refine (cloneBk a n cap (flatV 2 E) w (hsrc.imp id fun ⟨b, off, e, h⟩ => ⟨b, off, e, flatV_src hE h⟩) (flatV_one h1) hby).mono ?_
 rintro e w' ⟨v, rfl, ⟨rfl, h0⟩ | ⟨g, c, rfl, hB, hg, hc⟩, hb⟩
 ·exact ⟨none, 0, by rw [h0], .triv fun _ => .inl h0, hb⟩
 ·refine ⟨_, c, rfl, fun z hz => .inr ⟨g, rfl, Nat.lt_of_lt_of_le hg hz.2, flatV_back hE fun i hi => ?_⟩, hb⟩
  rw [cell_block (hz.1 g hB hg)]
  exact (hc i hi).1
theorem clRw (a : Option Addr) (n cap : Nat) (E : Nat → List Value) (hE : ∀ j, (E j).length = 4) (h1 : ∀ j, ∀ v ∈ E j, v.oneCell' = true) (w : World) (hsrc : n = 0 ∨ ∃ b off, a = some ⟨b, off, none⟩ ∧ ∀ j, j < n → CellsV w b (off + j * 4) (E j)) (hby : n * 32 ≤ 140737488355328) :
 Calls Tryz.prog 209 #[.slice a n cap] w fun e w' => ∃ (ay : Option Addr) (cy : Nat), e = .returned (.slice ay n cy) ∧ FrP w.heap.size w'.heap.size w' (fun z => n = 0 ∨ ∃ g, ay = some ⟨g, 0, none⟩ ∧ g < z.heap.size ∧ ∀ j, j < n → CellsV z g (j * 4) (E j)) ∧ Below w.heap.size w w' := by
 refine (cloneRw a n cap (flatV 4 E) w (hsrc.imp id fun ⟨b, off, e, h⟩ => ⟨b, off, e, flatV_src hE h⟩) (flatV_one h1) hby).mono ?_
 rintro e w' ⟨v, rfl, ⟨rfl, h0⟩ | ⟨g, c, rfl, hB, hg, hc⟩, hb⟩
 ·exact ⟨none, 0, by rw [h0], .triv fun _ => .inl h0, hb⟩
 ·refine ⟨_, c, rfl, fun z hz => .inr ⟨g, rfl, Nat.lt_of_lt_of_le hg hz.2, flatV_back hE fun i hi => ?_⟩, hb⟩
  rw [cell_block (hz.1 g hB hg)]
  exact (hc i hi).1
theorem clAm (a : Option Addr) (n cap : Nat) (E : Nat → List Value) (hE : ∀ j, (E j).length = 2) (h1 : ∀ j, ∀ v ∈ E j, v.oneCell' = true) (w : World) (hsrc : n = 0 ∨ ∃ b off, a = some ⟨b, off, none⟩ ∧ ∀ j, j < n → CellsV w b (off + j * 2) (E j)) (hby : n * 24 ≤ 140737488355328) :
 Calls Tryz.prog 167 #[.slice a n cap] w fun e w' => ∃ (ay : Option Addr) (cy : Nat), e = .returned (.slice ay n cy) ∧ FrP w.heap.size w'.heap.size w' (fun z => n = 0 ∨ ∃ g, ay = some ⟨g, 0, none⟩ ∧ g < z.heap.size ∧ ∀ j, j < n → CellsV z g (j * 2) (E j)) ∧ Below w.heap.size w w' := by
 refine (cloneAm a n cap (flatV 2 E) w (hsrc.imp id fun ⟨b, off, e, h⟩ => ⟨b, off, e, flatV_src hE h⟩) (flatV_one h1) hby).mono ?_
 rintro e w' ⟨v, rfl, ⟨rfl, h0⟩ | ⟨g, c, rfl, hB, hg, hc⟩, hb⟩
 ·exact ⟨none, 0, by rw [h0], .triv fun _ => .inl h0, hb⟩
 ·refine ⟨_, c, rfl, fun z hz => .inr ⟨g, rfl, Nat.lt_of_lt_of_le hg hz.2, flatV_back hE fun i hi => ?_⟩, hb⟩
  rw [cell_block (hz.1 g hB hg)]
  exact (hc i hi).1
theorem clPo (a : Option Addr) (n cap : Nat) (E : Nat → List Value) (hE : ∀ j, (E j).length = 2) (h1 : ∀ j, ∀ v ∈ E j, v.oneCell' = true) (w : World) (hsrc : n = 0 ∨ ∃ b off, a = some ⟨b, off, none⟩ ∧ ∀ j, j < n → CellsV w b (off + j * 2) (E j)) (hby : n * 24 ≤ 140737488355328) :
 Calls Tryz.prog 168 #[.slice a n cap] w fun e w' => ∃ (ay : Option Addr) (cy : Nat), e = .returned (.slice ay n cy) ∧ FrP w.heap.size w'.heap.size w' (fun z => n = 0 ∨ ∃ g, ay = some ⟨g, 0, none⟩ ∧ g < z.heap.size ∧ ∀ j, j < n → CellsV z g (j * 2) (E j)) ∧ Below w.heap.size w w' := by
 refine (clonePo a n cap (flatV 2 E) w (hsrc.imp id fun ⟨b, off, e, h⟩ => ⟨b, off, e, flatV_src hE h⟩) (flatV_one h1) hby).mono ?_
 rintro e w' ⟨v, rfl, ⟨rfl, h0⟩ | ⟨g, c, rfl, hB, hg, hc⟩, hb⟩
 ·exact ⟨none, 0, by rw [h0], .triv fun _ => .inl h0, hb⟩
 ·refine ⟨_, c, rfl, fun z hz => .inr ⟨g, rfl, Nat.lt_of_lt_of_le hg hz.2, flatV_back hE fun i hi => ?_⟩, hb⟩
  rw [cell_block (hz.1 g hB hg)]
  exact (hc i hi).1
end Go.Proofs.YtkalfdjmklakdaaGreatDoor
namespace Go.Proofs.YtkalfdjmklakdaaGreatDoor
open Go.RowKit
theorem sumN_one {f : Nat → Nat} {m j : Nat} (hj : j < m) : f j ≤ sumN f m := by
 induction m with
 | zero => omega
 | succ q ih =>
   rw [sumN]
   by_cases e : j = q
   ·subst e; omega
   ·have := ih (by omega); omega
theorem sumN_many {f : Nat → Nat} (h : ∀ j, 1 ≤ f j) : ∀ m, m ≤ sumN f m
 | 0 => Nat.zero_le _
 | m + 1 => by have := sumN_many h m; have := h m; rw [sumN]; omega
theorem xcells_of {z : World} {b o : Nat} {x : Ex} {a : Option Addr} {c : Nat} (h : CellsV z b o (vEx x a c)) : XCells z b o x a c := ⟨h 0 _ rfl, h 1 _ rfl, h 2 _ rfl, h 3 _ rfl⟩
theorem of_xcells {z : World} {b o : Nat} {x : Ex} {a : Option Addr} {c : Nat} (h : XCells z b o x a c) : CellsV z b o (vEx x a c) := fun i v hv => by
 match i, hv with
 | 0, hv => cases hv; exact h.1
 | 1, hv => cases hv; exact h.2.1
 | 2, hv => cases hv; exact h.2.2.1
 | 3, hv => cases hv; exact h.2.2.2
 | i + 4, hv => cases hv
theorem copiedExpr_any : ∀ (x : Ex), x.parts ≤ 4000 → ∀ (a : Option Addr) (c : Nat) (w : World), KidsAt w x a →
 Calls Tryz.prog 163 #[.agg #[.int .i64 x.k, .int .i64 x.n, .string x.s, .slice a x.m c]] w fun e w' => ∃ (ay : Option Addr) (cy : Nat), e = .returned (.agg #[.int .i64 x.k, .int .i64 x.n, .string x.s, .slice ay x.m cy]) ∧ FrP w.heap.size w'.heap.size w' (fun z => KidsAt z x ay) ∧ Below w.heap.size w w' := by
 intro x
 induction x with
 | no => intro _ a c w h; exact h.elim
 | mk k n s m kid ih =>
   intro hp a c w h
   rw [Ex.parts] at hp
   have hm : m ≤ 4000 := by have := sumN_many (f := fun j => (kid j).parts) (fun j => (kid j).parts_pos) m; omega
   have hkp : ∀ j, j < m → (kid j).parts ≤ 4000 := fun j hj => by have := sumN_one (f := fun j => (kid j).parts) hj; omega
   obtain ⟨hs, hml, hk⟩ := h
   refine fldEx (.mk k n s m kid) a c (fun z ay => KidsAt z (.mk k n s m kid) ay) w fun w' hw => ?_
   refine (copiesEx 163 a m c kid (fun z j ax => j < m ∧ KidsAt z (kid j) ax) w' hml (by omega) ?_ (fun w1 w2 j ax hb h => ⟨h.1, h.2.below hb⟩) (fun _ _ => by simp [go_sem]) fun j hj w1 ax cx hb h => ?_).mono ?_
   ·rcases hk with h0 | ⟨b, off, rfl, hb, hk⟩
    ·exact .inl h0
    ·refine .inr ⟨b, off, rfl, fun w1 hw1 j hj => ?_⟩
     obtain ⟨aj, cj, h1, h2⟩ := hk j hj
     have hw2 := hw.trans (hw1.mono hw.size)
     exact ⟨aj, cj, of_xcells (h1.below hw2 hb), hj, h2.below hw2⟩
   ·refine (ih j (hkp j hj) ax cx w1 h.2).mono ?_
    rintro e w2 ⟨ay, cy, rfl, hf, hb2⟩
    exact ⟨ay, cy, rfl, hf.imp fun z h => ⟨hj, h⟩, hb2⟩
   ·rintro e w2 ⟨rfl, hf, hb2⟩
    refine ⟨_, _, rfl, hf.imp fun z ⟨hz, hz2⟩ => ⟨hs, hml, .inr ⟨_, 0, rfl, hz, fun j hj => ?_⟩⟩, hb2⟩
    obtain ⟨ax, cx, h1, h2⟩ := hz2 j hj
    rw [Nat.zero_add]
    exact ⟨ax, cx, xcells_of h1, h2.2⟩
theorem of_cells2 {z : World} {b o : Nat} {u v : Value} (h0 : z.cell? ⟨b, o, none⟩ = some u) (h1 : z.cell? ⟨b, o + 1, none⟩ = some v) : CellsV z b o [u, v] := fun i x hx => by
 match i, hx with
 | 0, hx => cases hx; exact h0
 | 1, hx => cases hx; exact h1
 | i + 2, hx => cases hx
theorem of_cells4 {z : World} {b o : Nat} {u v x y : Value} (h0 : z.cell? ⟨b, o, none⟩ = some u) (h1 : z.cell? ⟨b, o + 1, none⟩ = some v) (h2 : z.cell? ⟨b, o + 2, none⟩ = some x) (h3 : z.cell? ⟨b, o + 3, none⟩ = some y) : CellsV z b o [u, v, x, y] := fun i t ht => by
 match i, ht with
 | 0, ht => cases ht; exact h0
 | 1, ht => cases ht; exact h1
 | 2, ht => cases ht; exact h2
 | 3, ht => cases ht; exact h3
 | i + 4, ht => cases ht
theorem of_cells5 {z : World} {b o : Nat} {u v x y t : Value} (h0 : z.cell? ⟨b, o, none⟩ = some u) (h1 : z.cell? ⟨b, o + 1, none⟩ = some v) (h2 : z.cell? ⟨b, o + 2, none⟩ = some x) (h3 : z.cell? ⟨b, o + 3, none⟩ = some y) (h4 : z.cell? ⟨b, o + 4, none⟩ = some t) : CellsV z b o [u, v, x, y, t] := fun i s hs => by
 match i, hs with
 | 0, hs => cases hs; exact h0
 | 1, hs => cases hs; exact h1
 | 2, hs => cases hs; exact h2
 | 3, hs => cases hs; exact h3
 | 4, hs => cases hs; exact h4
 | i + 5, hs => cases hs
theorem of_cells6 {z : World} {b o : Nat} {u v x y t p : Value} (h0 : z.cell? ⟨b, o, none⟩ = some u) (h1 : z.cell? ⟨b, o + 1, none⟩ = some v) (h2 : z.cell? ⟨b, o + 2, none⟩ = some x) (h3 : z.cell? ⟨b, o + 3, none⟩ = some y) (h4 : z.cell? ⟨b, o + 4, none⟩ = some t) (h5 : z.cell? ⟨b, o + 5, none⟩ = some p) : CellsV z b o [u, v, x, y, t, p] := fun i s hs => by
 match i, hs with
 | 0, hs => cases hs; exact h0
 | 1, hs => cases hs; exact h1
 | 2, hs => cases hs; exact h2
 | 3, hs => cases hs; exact h3
 | 4, hs => cases hs; exact h4
 | 5, hs => cases hs; exact h5
 | i + 6, hs => cases hs
theorem copiedLine_any (r : Ln) (hp : r.ex.parts ≤ 4000) (a : Option Addr) (c : Nat) (w : World) (h : KidsAt w r.ex a) :
 Calls Tryz.prog 112 #[.agg #[.int .i64 r.kind, .string r.name, .int .i64 r.ex.k, .int .i64 r.ex.n, .string r.ex.s, .slice a r.ex.m c]] w fun e w' => ∃ (ay : Option Addr) (cy : Nat), e = .returned (.agg #[.int .i64 r.kind, .string r.name, .int .i64 r.ex.k, .int .i64 r.ex.n, .string r.ex.s, .slice ay r.ex.m cy]) ∧ FrP w.heap.size w'.heap.size w' (fun z => KidsAt z r.ex ay) ∧ Below w.heap.size w w' :=
 fldLn r a c (fun z ay => KidsAt z r.ex ay) w fun w' hw => copiedExpr_any r.ex hp a c w' (h.below hw)
theorem copyLns (a : Option Addr) (n cap : Nat) (l : List Ln) (w : World) (hc : CameL w a l) (hn : l.length = n) (hm : n ≤ maxLen) (hby : n * 80 ≤ 140737488355328) (hp : ∀ j, j < n → (lnth l j).ex.parts ≤ 4000) : Copies 111 112 a n cap (fun z a => CameL z a l) w := by
 refine (copiesLn 112 a n cap (fun j => lnth l j) (fun z k ax => k < n ∧ (lnth l k).name.size ≤ maxLen ∧ KidsAt z (lnth l k).ex ax) w hm hby ?_ (fun w1 w2 k ax hb h => ⟨h.1, h.2.1, h.2.2.below hb⟩) (fun _ _ => by simp [go_sem]) fun k hk w1 ax cx hb h => ?_).mono ?_
 ·by_cases h0 : n = 0
  ·exact .inl h0
  ·obtain ⟨b, off, rfl, hcell⟩ := hc.open hn (by omega)
   refine .inr ⟨b, off, rfl, fun w1 hw1 k hk => ?_⟩
   obtain ⟨ax, cx, ⟨x0, x1, x2, x3, x4, x5⟩, x6, x7⟩ := hcell w1 hw1 k hk; exact ⟨ax, cx, of_cells6 x0 x1 x2 x3 x4 x5, hk, x6, x7⟩
 ·refine (copiedLine_any (lnth l k) (hp k hk) ax cx w1 h.2.2).mono ?_
  rintro e w2 ⟨ay, cy, rfl, hf, hb2⟩
  exact ⟨ay, cy, rfl, hf.imp fun z hz => ⟨hk, h.2.1, hz⟩, hb2⟩
 ·rintro e w2 ⟨rfl, hf, hb2⟩
  refine ⟨_, rfl, hf.imp fun z ⟨hz, hz2⟩ => .inr ⟨_, 0, rfl, hz, fun j hj => ?_⟩, hb2⟩
  obtain ⟨ax, cx, h1, h2⟩ := hz2 j (by omega)
  rw [Nat.zero_add]
  exact ⟨ax, cx, ⟨h1 0 _ rfl, h1 1 _ rfl, h1 2 _ rfl, h1 3 _ rfl, h1 4 _ rfl, h1 5 _ rfl⟩, h2.2.1, h2.2.2⟩
theorem copiedTable_any (r : Tb) (hs : r.bks.length * 16 ≤ 140737488355328) (a : Option Addr) (c : Nat) (w : World) (h : CameB w a r.bks) :
 Calls Tryz.prog 114 #[.agg #[.string r.name, .slice a r.bks.length c]] w fun e w' => ∃ (ay : Option Addr) (cy : Nat), e = .returned (.agg #[.string r.name, .slice ay r.bks.length cy]) ∧ FrP w.heap.size w'.heap.size w' (fun z => CameB z ay r.bks) ∧ Below w.heap.size w w' :=
 fldTb r a c (fun z ay => CameB z ay r.bks) w fun w' hw => by
  refine (clBk a r.bks.length c (fun j => [.int .i64 (bnth r.bks j).frm, .int .i64 (bnth r.bks j).rate]) (fun _ => rfl) (fun j v hv => by simp at hv; rcases hv with rfl | rfl <;> rfl) w' ?_ hs).mono ?_
  ·rcases h.below hw with h0 | ⟨b, off, rfl, _, hb⟩
   ·exact .inl h0
   ·exact .inr ⟨b, off, rfl, fun j hj => of_cells2 (hb j hj).1 (hb j hj).2⟩
  ·rintro e w2 ⟨ay, cy, rfl, hf, hb2⟩
   refine ⟨ay, cy, rfl, hf.imp ?_, hb2⟩
   rintro z (h0 | ⟨g, rfl, hg, hz⟩)
   ·exact .inl h0
   ·exact .inr ⟨g, 0, rfl, hg, fun j hj => by rw [Nat.zero_add]; exact ⟨hz j hj 0 _ rfl, hz j hj 1 _ rfl⟩⟩
theorem copyTbs (a : Option Addr) (n cap : Nat) (l : List Tb) (w : World) (hc : CameT w a l) (hn : l.length = n) (hm : n ≤ maxLen) (hby : n * 40 ≤ 140737488355328) (hp : ∀ j, j < n → (tnth l j).bks.length * 16 ≤ 140737488355328) : Copies 113 114 a n cap (fun z a => CameT z a l) w := by
 refine (copiesTb 114 a n cap (fun j => tnth l j) (fun z k ax => k < n ∧ CameB z ax (tnth l k).bks ∧ (tnth l k).name.size ≤ maxLen ∧ (tnth l k).bks.length ≤ maxLen) w hm hby ?_ (fun w1 w2 k ax hb h => ⟨h.1, h.2.1.below hb, h.2.2⟩) (fun _ _ => by simp [go_sem]) fun k hk w1 ax cx hb h => ?_).mono ?_
 ·by_cases h0 : n = 0
  ·exact .inl h0
  ·obtain ⟨b, off, rfl, hcell⟩ := hc.open hn (by omega)
   refine .inr ⟨b, off, rfl, fun w1 hw1 k hk => ?_⟩
   obtain ⟨ax, cx, x0, x1, x2, x3⟩ := hcell w1 hw1 k hk; exact ⟨ax, cx, of_cells2 x0 x1, hk, x2, x3⟩
 ·refine (copiedTable_any (tnth l k) (hp k hk) ax cx w1 h.2.1).mono ?_
  rintro e w2 ⟨ay, cy, rfl, hf, hb2⟩
  exact ⟨ay, cy, rfl, hf.imp fun z hz => ⟨hk, hz, h.2.2⟩, hb2⟩
 ·rintro e w2 ⟨rfl, hf, hb2⟩
  refine ⟨_, rfl, hf.imp fun z ⟨hz, hz2⟩ => .inr ⟨_, 0, rfl, hz, fun j hj => ?_⟩, hb2⟩
  obtain ⟨ax, cx, h1, h2⟩ := hz2 j (by omega)
  rw [Nat.zero_add]
  exact ⟨ax, cx, h1 0 _ rfl, h1 1 _ rfl, h2.2.1, h2.2.2⟩
theorem copiedInput_any (r : In) (hs : r.rows.length * 32 ≤ 140737488355328) (a : Option Addr) (c : Nat) (w : World) (h : Hst.CameR w a r.rows) :
 Calls Tryz.prog 166 #[.agg #[.string r.name, .slice a r.rows.length c]] w fun e w' => ∃ (ay : Option Addr) (cy : Nat), e = .returned (.agg #[.string r.name, .slice ay r.rows.length cy]) ∧ FrP w.heap.size w'.heap.size w' (fun z => Hst.CameR z ay r.rows) ∧ Below w.heap.size w w' :=
 fldIn r a c (fun z ay => Hst.CameR z ay r.rows) w fun w' hw => by
  refine (clRw a r.rows.length c (fun j => [.int .i64 (Hst.rnth r.rows j).frm, .int .i64 (Hst.rnth r.rows j).seen, .int .i64 (Hst.rnth r.rows j).val, .bool (Hst.rnth r.rows j).gone]) (fun _ => rfl) (fun j v hv => by simp at hv; rcases hv with rfl | rfl | rfl | rfl <;> rfl) w' ?_ hs).mono ?_
  ·rcases h.below hw with h0 | ⟨b, off, rfl, _, hb⟩
   ·exact .inl h0
   ·exact .inr ⟨b, off, rfl, fun j hj => of_cells4 (hb j hj).1 (hb j hj).2.1 (hb j hj).2.2.1 (hb j hj).2.2.2⟩
  ·rintro e w2 ⟨ay, cy, rfl, hf, hb2⟩
   refine ⟨ay, cy, rfl, hf.imp ?_, hb2⟩
   rintro z (h0 | ⟨g, rfl, hg, hz⟩)
   ·exact .inl h0
   ·exact .inr ⟨g, 0, rfl, hg, fun j hj => by rw [Nat.zero_add]; exact ⟨hz j hj 0 _ rfl, hz j hj 1 _ rfl, hz j hj 2 _ rfl, hz j hj 3 _ rfl⟩⟩
theorem copyIns (a : Option Addr) (n cap : Nat) (l : List In) (w : World) (hc : CameI w a l) (hn : l.length = n) (hm : n ≤ maxLen) (hby : n * 40 ≤ 140737488355328) (hp : ∀ j, j < n → (inth l j).rows.length * 32 ≤ 140737488355328) : Copies 165 166 a n cap (fun z a => CameI z a l) w := by
 refine (copiesIn 166 a n cap (fun j => inth l j) (fun z k ax => k < n ∧ Hst.CameR z ax (inth l k).rows ∧ (inth l k).name.size ≤ maxLen ∧ (inth l k).rows.length ≤ maxLen) w hm hby ?_ (fun w1 w2 k ax hb h => ⟨h.1, h.2.1.below hb, h.2.2⟩) (fun _ _ => by simp [go_sem]) fun k hk w1 ax cx hb h => ?_).mono ?_
 ·by_cases h0 : n = 0
  ·exact .inl h0
  ·obtain ⟨b, off, rfl, hcell⟩ := hc.open hn (by omega)
   refine .inr ⟨b, off, rfl, fun w1 hw1 k hk => ?_⟩
   obtain ⟨ax, cx, x0, x1, x2, x3⟩ := hcell w1 hw1 k hk; exact ⟨ax, cx, of_cells2 x0 x1, hk, x2, x3⟩
 ·refine (copiedInput_any (inth l k) (hp k hk) ax cx w1 h.2.1).mono ?_
  rintro e w2 ⟨ay, cy, rfl, hf, hb2⟩
  exact ⟨ay, cy, rfl, hf.imp fun z hz => ⟨hk, hz, h.2.2⟩, hb2⟩
 ·rintro e w2 ⟨rfl, hf, hb2⟩
  refine ⟨_, rfl, hf.imp fun z ⟨hz, hz2⟩ => .inr ⟨_, 0, rfl, hz, fun j hj => ?_⟩, hb2⟩
  obtain ⟨ax, cx, h1, h2⟩ := hz2 j (by omega)
  rw [Nat.zero_add]
  exact ⟨ax, cx, h1 0 _ rfl, h1 1 _ rfl, h2.2.1, h2.2.2⟩
theorem copiedPerson_any (r : Ps) (h30 : r.ins.length ≤ 30) (hs : ∀ j, j < r.ins.length → (inth r.ins j).rows.length * 32 ≤ 140737488355328) (a : Option Addr) (c : Nat) (w : World) (h : CameI w a r.ins) :
 Calls Tryz.prog 116 #[.agg #[.int .i64 r.num, .string r.name, .string r.acc, .slice a r.ins.length c]] w fun e w' => ∃ (ay : Option Addr) (cy : Nat), e = .returned (.agg #[.int .i64 r.num, .string r.name, .string r.acc, .slice ay r.ins.length cy]) ∧ FrP w.heap.size w'.heap.size w' (fun z => CameI z ay r.ins) ∧ Below w.heap.size w w' :=
 fldPs r a c (fun z ay => CameI z ay r.ins) w fun w' hw => by
  refine (copyIns a r.ins.length c r.ins w' (h.below hw) rfl (by unfold maxLen; omega) (by omega) hs).mono ?_
  rintro e w2 ⟨b, rfl, hf, hb2⟩
  exact ⟨_, _, rfl, hf, hb2⟩
theorem copyPrs (a : Option Addr) (n cap : Nat) (l : List Ps) (w : World) (hc : CamePs w a l) (hn : l.length = n) (hm : n ≤ maxLen) (hby : n * 64 ≤ 140737488355328) (hp : ∀ j, j < n → (psth l j).ins.length ≤ 30 ∧ ∀ i, i < (psth l j).ins.length → (inth (psth l j).ins i).rows.length * 32 ≤ 140737488355328) : Copies 115 116 a n cap (fun z a => CamePs z a l) w := by
 refine (copiesPs 116 a n cap (fun j => psth l j) (fun z k ax => k < n ∧ CameI z ax (psth l k).ins ∧ (psth l k).name.size ≤ maxLen ∧ (psth l k).acc.size ≤ maxLen ∧ (psth l k).ins.length ≤ maxLen) w hm hby ?_ (fun w1 w2 k ax hb h => ⟨h.1, h.2.1.below hb, h.2.2⟩) (fun _ _ => by simp [go_sem]) fun k hk w1 ax cx hb h => ?_).mono ?_
 ·by_cases h0 : n = 0
  ·exact .inl h0
  ·obtain ⟨b, off, rfl, hcell⟩ := hc.open hn (by omega)
   refine .inr ⟨b, off, rfl, fun w1 hw1 k hk => ?_⟩
   obtain ⟨ax, cx, x0, x1, x2, x3, x4, x5⟩ := hcell w1 hw1 k hk; exact ⟨ax, cx, of_cells4 x0 x1 x2 x3, hk, x4, x5⟩
 ·refine (copiedPerson_any (psth l k) (hp k hk).1 (hp k hk).2 ax cx w1 h.2.1).mono ?_
  rintro e w2 ⟨ay, cy, rfl, hf, hb2⟩
  exact ⟨ay, cy, rfl, hf.imp fun z hz => ⟨hk, hz, h.2.2⟩, hb2⟩
 ·rintro e w2 ⟨rfl, hf, hb2⟩
  refine ⟨_, rfl, hf.imp fun z ⟨hz, hz2⟩ => .inr ⟨_, 0, rfl, hz, fun j hj => ?_⟩, hb2⟩
  obtain ⟨ax, cx, h1, h2⟩ := hz2 j (by omega)
  rw [Nat.zero_add]
  exact ⟨ax, cx, h1 0 _ rfl, h1 1 _ rfl, h1 2 _ rfl, h1 3 _ rfl, h2.2.1, h2.2.2⟩
theorem copiedSlip_any (r : Sq.Slp.Sl) (h30 : r.tot.length ≤ 30) (a : Option Addr) (c : Nat) (w : World) (h : Sq.Slp.PsAt w a r.tot) :
 Calls Tryz.prog 118 #[.agg #[.int .i64 r.num, .int .i64 r.per, .int .i64 r.run, .bool r.gone, .slice a r.tot.length c]] w fun e w' => ∃ (ay : Option Addr) (cy : Nat), e = .returned (.agg #[.int .i64 r.num, .int .i64 r.per, .int .i64 r.run, .bool r.gone, .slice ay r.tot.length cy]) ∧ FrP w.heap.size w'.heap.size w' (fun z => Sq.Slp.PsAt z ay r.tot) ∧ Below w.heap.size w w' :=
 fldSl r a c (fun z ay => Sq.Slp.PsAt z ay r.tot) w fun w' hw => by
  refine (clAm a r.tot.length c (fun j => [.string (Sq.anth r.tot j).name, .int .i64 (Sq.anth r.tot j).mon]) (fun _ => rfl) (fun j v hv => by simp at hv; rcases hv with rfl | rfl <;> rfl) w' ?_ (by omega)).mono ?_
  ·rcases (h.below hw).1 with h0 | ⟨b, off, rfl, _, hb⟩
   ·exact .inl h0
   ·exact .inr ⟨b, off, rfl, fun j hj => of_cells2 (hb j hj).1 (hb j hj).2⟩
  ·rintro e w2 ⟨ay, cy, rfl, hf, hb2⟩
   refine ⟨ay, cy, rfl, hf.imp ?_, hb2⟩
   rintro z (h0 | ⟨g, rfl, hg, hz⟩)
   ·exact ⟨.inl h0, h.2⟩
   ·exact ⟨.inr ⟨g, 0, rfl, hg, fun j hj => by rw [Nat.zero_add]; exact ⟨hz j hj 0 _ rfl, hz j hj 1 _ rfl⟩⟩, h.2⟩
theorem copySls (a : Option Addr) (n cap : Nat) (l : List Sq.Slp.Sl) (w : World) (hc : Sq.Slp.CameS w a l) (hn : l.length = n) (hm : n ≤ maxLen) (hby : n * 56 ≤ 140737488355328) (hp : ∀ j, j < n → (Sq.Slp.snth l j).tot.length ≤ 30) : Copies 117 118 a n cap (fun z a => Sq.Slp.CameS z a l) w := by
 refine (copiesSl 118 a n cap (fun j => Sq.Slp.snth l j) (fun z k ax => k < n ∧ Sq.Slp.PsAt z ax (Sq.Slp.snth l k).tot) w hm hby ?_ (fun w1 w2 k ax hb h => ⟨h.1, h.2.below hb⟩) (fun _ _ => by simp [go_sem]) fun k hk w1 ax cx hb h => ?_).mono ?_
 ·by_cases h0 : n = 0
  ·exact .inl h0
  ·obtain ⟨b, off, rfl, hcell⟩ := hc.open hn (by omega)
   refine .inr ⟨b, off, rfl, fun w1 hw1 k hk => ?_⟩
   obtain ⟨⟨x0, x1, x2, x3⟩, ax, cx, x4, x5⟩ := hcell w1 hw1 k hk; exact ⟨ax, cx, of_cells5 x0 x1 x2 x3 x4, hk, x5⟩
 ·refine (copiedSlip_any (Sq.Slp.snth l k) (hp k hk) ax cx w1 h.2).mono ?_
  rintro e w2 ⟨ay, cy, rfl, hf, hb2⟩
  exact ⟨ay, cy, rfl, hf.imp fun z hz => ⟨hk, hz⟩, hb2⟩
 ·rintro e w2 ⟨rfl, hf, hb2⟩
  refine ⟨_, rfl, hf.imp fun z ⟨hz, hz2⟩ => .inr ⟨_, 0, rfl, hz, fun j hj => ?_⟩, hb2⟩
  obtain ⟨ax, cx, h1, h2⟩ := hz2 j (by omega)
  rw [Nat.zero_add]
  exact ⟨⟨h1 0 _ rfl, h1 1 _ rfl, h1 2 _ rfl, h1 3 _ rfl⟩, ax, cx, h1 4 _ rfl, h2.2⟩
theorem copiedEntry_any (r : Sq.Ldg.En) (h20 : r.ps.length ≤ 20) (a : Option Addr) (c : Nat) (w : World) (h : Sq.Ldg.PsAt w a r.ps) :
 Calls Tryz.prog 120 #[.agg #[.int .i64 r.day, .slice a r.ps.length c]] w fun e w' => ∃ (ay : Option Addr) (cy : Nat), e = .returned (.agg #[.int .i64 r.day, .slice ay r.ps.length cy]) ∧ FrP w.heap.size w'.heap.size w' (fun z => Sq.Ldg.PsAt z ay r.ps) ∧ Below w.heap.size w w' :=
 fldEn r a c (fun z ay => Sq.Ldg.PsAt z ay r.ps) w fun w' hw => by
  refine (clPo a r.ps.length c (fun j => [.string (Sq.anth r.ps j).name, .int .i64 (Sq.anth r.ps j).mon]) (fun _ => rfl) (fun j v hv => by simp at hv; rcases hv with rfl | rfl <;> rfl) w' ?_ (by omega)).mono ?_
  ·rcases (h.below hw).1 with h0 | ⟨b, off, rfl, _, hb⟩
   ·exact .inl h0
   ·exact .inr ⟨b, off, rfl, fun j hj => of_cells2 (hb j hj).1 (hb j hj).2⟩
  ·rintro e w2 ⟨ay, cy, rfl, hf, hb2⟩
   refine ⟨ay, cy, rfl, hf.imp ?_, hb2⟩
   rintro z (h0 | ⟨g, rfl, hg, hz⟩)
   ·exact ⟨.inl h0, h.2⟩
   ·exact ⟨.inr ⟨g, 0, rfl, hg, fun j hj => by rw [Nat.zero_add]; exact ⟨hz j hj 0 _ rfl, hz j hj 1 _ rfl⟩⟩, h.2⟩
theorem copyEns (a : Option Addr) (n cap : Nat) (l : List Sq.Ldg.En) (w : World) (hc : Sq.Ldg.CameE w a l) (hn : l.length = n) (hm : n ≤ maxLen) (hby : n * 32 ≤ 140737488355328) (hp : ∀ j, j < n → (Sq.Ldg.enth l j).ps.length ≤ 20) : Copies 119 120 a n cap (fun z a => Sq.Ldg.CameE z a l) w := by
 refine (copiesEn 120 a n cap (fun j => Sq.Ldg.enth l j) (fun z k ax => k < n ∧ Sq.Ldg.PsAt z ax (Sq.Ldg.enth l k).ps) w hm hby ?_ (fun w1 w2 k ax hb h => ⟨h.1, h.2.below hb⟩) (fun _ _ => by simp [go_sem]) fun k hk w1 ax cx hb h => ?_).mono ?_
 ·by_cases h0 : n = 0
  ·exact .inl h0
  ·obtain ⟨b, off, rfl, hcell⟩ := hc.open hn (by omega)
   refine .inr ⟨b, off, rfl, fun w1 hw1 k hk => ?_⟩
   obtain ⟨ax, cx, x0, x1, x2⟩ := hcell w1 hw1 k hk; exact ⟨ax, cx, of_cells2 x0 x1, hk, x2⟩
 ·refine (copiedEntry_any (Sq.Ldg.enth l k) (hp k hk) ax cx w1 h.2).mono ?_
  rintro e w2 ⟨ay, cy, rfl, hf, hb2⟩
  exact ⟨ay, cy, rfl, hf.imp fun z hz => ⟨hk, hz⟩, hb2⟩
 ·rintro e w2 ⟨rfl, hf, hb2⟩
  refine ⟨_, rfl, hf.imp fun z ⟨hz, hz2⟩ => .inr ⟨_, 0, rfl, hz, fun j hj => ?_⟩, hb2⟩
  obtain ⟨ax, cx, h1, h2⟩ := hz2 j (by omega)
  rw [Nat.zero_add]
  exact ⟨ax, cx, h1 0 _ rfl, h1 1 _ rfl, h2.2⟩
end Go.Proofs.YtkalfdjmklakdaaGreatDoor
