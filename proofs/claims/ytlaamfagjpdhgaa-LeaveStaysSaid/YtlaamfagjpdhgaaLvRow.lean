/-
  Uses: how they lie in memory, how a list of them that came in is opened; the walks of what Check asks of leave and of a use.
-/
import Derived.Test.YtlaamfagjpdhgaaLvBeg
import Derived.Deep.Slices
import Derived.ChangeSame
namespace Go.Proofs.Ytlaamfagjpdhgaa
open Go.RowKit

/-- In the world w the cells from (b, off) on hold the uses l, two cells a use. -/
def UAt (w : World) (b off : Nat) (l : List Us) : Prop := b < w.heap.size ∧ ∀ j, j < l.length → w.cell? ⟨b, off + j * 2, none⟩ = some (.int .i64 (unth l j).day) ∧ w.cell? ⟨b, off + j * 2 + 1, none⟩ = some (.int .i64 (unth l j).days)
theorem UAt.below {B : Nat} {w w' : World} {b off : Nat} {l : List Us} (h : UAt w b off l) (hb : Below B w w') (hB : b < B) : UAt w' b off l :=
  ⟨Nat.lt_of_lt_of_le h.1 hb.size, fun j hj => ⟨(hb.cell (p := ⟨b, off + j * 2, none⟩) hB).trans (h.2 j hj).1, (hb.cell (p := ⟨b, off + j * 2 + 1, none⟩) hB).trans (h.2 j hj).2⟩⟩
/-- A slice of uses that came in. -/
def CameU (w : World) (a : Option Addr) (l : List Us) : Prop := l.length = 0 ∨ ∃ b off, a = some ⟨b, off, none⟩ ∧ UAt w b off l
theorem CameU.below {w w' : World} {a : Option Addr} {l : List Us} (h : CameU w a l) (hb : Below w.heap.size w w') : CameU w' a l := by
  rcases h with h | ⟨b, off, rfl, h⟩
  · exact .inl h
  · exact .inr ⟨b, off, rfl, h.below hb h.1⟩
theorem ult_of_cell {W : World} {p : Addr} {v : Value} (h : W.cell? p = some v) : p.block < W.heap.size := by
  by_cases hb : p.block < W.heap.size
  · exact hb
  · have : W.heap[p.block]? = none := Array.getElem?_eq_none (by omega)
    simp [World.cell?, this] at h
theorem ucells_us : Try.prog.cellsOf 64 = 2 := by kernel_rfl
theorem ucells_int : Try.prog.cellsOf 3 = 1 := by kernel_rfl
set_option maxRecDepth 100000 in
theorem open_uses {H : Type} {enc : TypeId × Value → H} {W : World} {fuel : Nat} {v : Value} {x : DataW H × List MemPlace}
    (h : DataW.trod enc Try.prog W 0 (fun _ => true) true fuel 56 [v] = some x) :
    ∃ (a : Option Addr) (len cap : Nat) (l : List Us), v = .slice a len cap ∧ CameU W a l ∧ l.length = len ∧ len ≤ maxLen := by
  rcases Deep.open_slice Try.underlying56 h with ⟨hcs, _⟩ | ⟨a', len, cap, m, n, D, Pl, hcs, hb, hl, hm, hmm, _, hx⟩
  · simp at hcs
    exact ⟨none, 0, 0, [], hcs, .inl rfl, rfl, Nat.zero_le _⟩
  simp at hcs
  subst hcs
  have hmc : m = cap := by rw [hmm]; simp
  subst hmc
  have each : ∀ i, i < m → ∃ r : Us, W.cell? (a'.add (i * 2)) = some (.int .i64 r.day) ∧ W.cell? (a'.add (i * 2 + 1)) = some (.int .i64 r.days) := by
    intro i hi
    obtain ⟨cs', h1, h2⟩ := hx i hi
    rw [ucells_us] at h1
    obtain ⟨_, hlen, hcell⟩ := World.cells?_some h1
    obtain ⟨xs, k, hk, hxy, _, hxl, hf⟩ := DataW.trod_struct Try.underlying64 h2
    match xs, hxl, cs', hlen with
    | [y0, y1], _, [v0, v1], _ =>
      have g0 := hf 0 _ rfl
      have g1 := hf 1 _ rfl
      simp [ucells_int] at g0 g1
      obtain ⟨n0, q0, _, w0⟩ := DataW.trod_int Try.underlying3 g0
      obtain ⟨n1, q1, _, w1⟩ := DataW.trod_int Try.underlying3 g1
      simp at q0 q1
      subst q0 q1
      have e0 := hcell 0 (by omega)
      have e1 := hcell 1 (by omega)
      rw [Deep.add_add] at e0 e1
      exact ⟨⟨n0, n1⟩, by simpa using e0, by simpa using e1⟩
  haveI : Inhabited Us := ⟨⟨0, 0⟩⟩
  obtain ⟨q, hq⟩ := Deep.choose_lt each
  have hnth : ∀ j, j < len → unth ((List.range len).map q) j = q j := by
    intro j hj
    simp [unth, List.getD_eq_getElem?_getD, hj]
  refine ⟨some a', len, m, (List.range len).map q, rfl, ?_, by simp, by omega⟩
  by_cases h0 : len = 0
  · exact .inl (by simp [h0])
  · obtain ⟨b, off, spot⟩ := a'
    have hc := (hq 0 (by omega)).1
    have hspot : spot = none := by simpa [Addr.add] using World.cell?_spot hc
    subst hspot
    refine .inr ⟨b, off, rfl, ult_of_cell hc, fun j hj => ?_⟩
    have hj' : j < len := by simpa using hj
    have := hq j (by omega)
    simp only [Addr.add_lit] at this
    rw [hnth j hj']
    simpa [Nat.add_assoc] using this
/-- A use's two cells. -/
def UsIs (w : World) (b o : Nat) (r : Us) : Prop := w.cell? ⟨b, o, none⟩ = some (.int .i64 r.day) ∧ w.cell? ⟨b, o + 1, none⟩ = some (.int .i64 r.days)
theorem UsIs.below {B : Nat} {w w' : World} {b o : Nat} {r : Us} (h : UsIs w b o r) (hb : Below B w w') (hB : b < B) : UsIs w' b o r :=
  ⟨(hb.cell (p := ⟨b, o, none⟩) hB).trans h.1, (hb.cell (p := ⟨b, o + 1, none⟩) hB).trans h.2⟩
theorem CameU.open {w : World} {a : Option Addr} {l : List Us} (h : CameU w a l) {n : Nat} (hn : l.length = n) (h0 : 0 < n) : ∃ b off, a = some ⟨b, off, none⟩ ∧ ∀ w', Below w.heap.size w w' → ∀ k, k < n → UsIs w' b (off + k * 2) (unth l k) := by
  rcases h with h | ⟨b, off, rfl, h⟩
  · omega
  · exact ⟨b, off, rfl, fun w' hb k hk => UsIs.below (h.2 k (by omega)) hb h.1⟩
set_option maxHeartbeats 1000000 in
theorem isLeave_any (h r c : Int) (w : World) : Calls Try.prog 70 #[.agg #[.int .i64 h, .int .i64 r, .int .i64 c]] w fun e w' => e = .returned (.bool (lvB h r c)) ∧ Below w.heap.size w w' := by
  have HX : Hid (lvB h r c = (dayB h && decide (0 ≤ r) && decide (r ≤ 1000) && decide (0 ≤ c) && decide (c ≤ 100000))) := rfl
  cases h1 : dayB h
  · have HE : Hid (lvB h r c = false) := by unfold Hid; rw [HX.out]; simp [h1]
    go_enter Try.func70, Try.ntmps70
    go_wp2_with (first | (go_at_call 38; refine (isDay_any _ _).mono ?_; rintro e w' ⟨rfl, h'⟩; subst w'))
    go_ret
    exact ⟨cret_bool HE.out.symm, lbelow_box _ _⟩
  · cases h2 : decide (0 ≤ r)
    · have HE : Hid (lvB h r c = false) := by unfold Hid; rw [HX.out]; simp [h2]
      go_enter Try.func70, Try.ntmps70
      go_wp2_with (first | (go_at_call 38; refine (isDay_any _ _).mono ?_; rintro e w' ⟨rfl, h'⟩; subst w'))
      go_ret
      exact ⟨cret_bool HE.out.symm, lbelow_box _ _⟩
    · cases h3 : decide (r ≤ 1000)
      · have HE : Hid (lvB h r c = false) := by unfold Hid; rw [HX.out]; simp [h3]
        go_enter Try.func70, Try.ntmps70
        go_wp2_with (first | (go_at_call 38; refine (isDay_any _ _).mono ?_; rintro e w' ⟨rfl, h'⟩; subst w'))
        go_ret
        exact ⟨cret_bool HE.out.symm, lbelow_box _ _⟩
      · cases h4 : decide (0 ≤ c)
        · have HE : Hid (lvB h r c = false) := by unfold Hid; rw [HX.out]; simp [h4]
          go_enter Try.func70, Try.ntmps70
          go_wp2_with (first | (go_at_call 38; refine (isDay_any _ _).mono ?_; rintro e w' ⟨rfl, h'⟩; subst w'))
          go_ret
          exact ⟨cret_bool HE.out.symm, lbelow_box _ _⟩
        · have HE : Hid (lvB h r c = decide (c ≤ 100000)) := by unfold Hid; rw [HX.out, h1, h2, h3, h4]; simp
          go_enter Try.func70, Try.ntmps70
          go_wp2_with (first | (go_at_call 38; refine (isDay_any _ _).mono ?_; rintro e w' ⟨rfl, h'⟩; subst w'))
          go_ret
          exact ⟨cret_bool HE.out.symm, lbelow_box _ _⟩
set_option maxHeartbeats 1000000 in
theorem isDayOf_any (h r c d : Int) (w : World) : Calls Try.prog 63 #[.agg #[.int .i64 h, .int .i64 r, .int .i64 c], .int .i64 d] w fun e w' => e = .returned (.bool (dofB h d)) ∧ Below w.heap.size w w' := by
  cases h1 : dayB d
  · have HE : Hid (dofB h d = false) := by unfold Hid dofB; simp [h1]
    go_enter Try.func63, Try.ntmps63
    go_wp2_with (first | (go_at_call 38; refine (isDay_any _ _).mono ?_; rintro e w' ⟨rfl, h'⟩; subst w'))
    go_ret
    exact ⟨cret_bool HE.out.symm, lbelow_box _ _⟩
  · have HE : Hid (dofB h d = decide (h ≤ d)) := by unfold Hid dofB; simp [h1]
    go_enter Try.func63, Try.ntmps63
    go_wp2_with (first | (go_at_call 38; refine (isDay_any _ _).mono ?_; rintro e w' ⟨rfl, h'⟩; subst w'))
    go_ret
    exact ⟨cret_bool HE.out.symm, lbelow_box _ _⟩
set_option maxHeartbeats 1000000 in
theorem isUsed_any (n : Int) (w : World) : Calls Try.prog 69 #[.int .i64 n] w fun e w' => e = .returned (.bool (usedB n)) ∧ w' = w := by
  cases h1 : decide (1 ≤ n)
  · have HE : Hid (usedB n = false) := by unfold Hid usedB; simp [h1]
    go_enter Try.func69, Try.ntmps69
    go_wp2_with fail
    go_ret
    exact ⟨cret_bool HE.out.symm, rfl⟩
  · have HE : Hid (usedB n = decide (n ≤ 100000)) := by unfold Hid usedB; simp [h1]
    go_enter Try.func69, Try.ntmps69
    go_wp2_with fail
    go_ret
    exact ⟨cret_bool HE.out.symm, rfl⟩
end Go.Proofs.Ytlaamfagjpdhgaa
