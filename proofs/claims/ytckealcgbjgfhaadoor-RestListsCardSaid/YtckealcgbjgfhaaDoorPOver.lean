/-
  Promises C3, C4: walks of Overlap, count and Prorate.
-/
import Derived.Test.YtckealcgbjgfhaaDoorPBase
import Derived.Test.YtckealcgbjgfhaaDoorCLast
import Derived.Test.YtckealcgbjgfhaaDoorMRoundV
namespace Go.Proofs.YtckealcgbjgfhaaDoor
open Go.RowKit Go.Maps

/-- The common days: the later beginning, the earlier end; or that there is none. -/
def OvIs (f t g u a b : Int) (ok : Bool) : Prop := (ok = true ∧ a = max f g ∧ b = min t u ∧ a ≤ b) ∨ (ok = false ∧ a = 0 ∧ b = 0 ∧ min t u < max f g)
set_option maxRecDepth 100000 in
set_option maxHeartbeats 1000000 in
theorem Overlap_any (f t g u : Int) (w : World) : Calls Tryd.prog 31 #[.agg #[.int .i64 f, .int .i64 t], .agg #[.int .i64 g, .int .i64 u]] w fun e w' => ∃ (a b : Int) (ok : Bool), e = .returned (.tuple #[.agg #[.int .i64 a, .int .i64 b], .bool ok]) ∧ OvIs f t g u a b ok ∧ Below w.heap.size w w' := by
  have HB := Lib.hid (fun (p q r s : Int) => ((((Below.refl w.heap.size w).alloc (Nat.le_refl _) (.cells #[.int .i64 f, .int .i64 t] 24)).alloc (by simp) (.cells #[.int .i64 g, .int .i64 u] 24)).alloc (by simp; omega) (.cells #[.int .i64 p, .int .i64 q] 24)).alloc (by simp; omega) (.cells #[.int .i64 r, .int .i64 s] 24))
  by_cases hfg : f < g
  · by_cases hut : u < t
    · by_cases hno : u < g
      · go_enter Tryd.func31, Tryd.ntmps31
        go_wp2_with fail
        refine bodyPost_ret (v := .tuple #[.agg #[.int .i64 0, .int .i64 0], .bool false]) (by simp [results, Tryd.results31, go_sem] <;> first | rfl | omega) rfl (by first | exact ⟨0, 0, false, rfl, .inr ⟨rfl, rfl, rfl, by omega⟩, HB.out _ _ _ _⟩ | exact ⟨0, 0, .inl ⟨rfl, .inr ⟨rfl, rfl, rfl, by omega⟩, HB.out _ _ _ _⟩⟩)
      · have hnoB : decide (u < g) = false := decide_eq_false hno
        go_enter Tryd.func31, Tryd.ntmps31
        go_wp2_with fail
        refine bodyPost_ret (v := .tuple #[.agg #[.int .i64 g, .int .i64 u], .bool true]) (by simp [results, Tryd.results31, go_sem] <;> first | rfl | omega) rfl (by first | exact ⟨g, u, true, rfl, .inl ⟨rfl, by omega, by omega, by omega⟩, HB.out _ _ _ _⟩ | exact ⟨g, u, .inr ⟨rfl, .inl ⟨rfl, by omega, by omega, by omega⟩, HB.out _ _ _ _⟩⟩)
    · by_cases hno : t < g
      · go_enter Tryd.func31, Tryd.ntmps31
        go_wp2_with fail
        refine bodyPost_ret (v := .tuple #[.agg #[.int .i64 0, .int .i64 0], .bool false]) (by simp [results, Tryd.results31, go_sem] <;> first | rfl | omega) rfl (by first | exact ⟨0, 0, false, rfl, .inr ⟨rfl, rfl, rfl, by omega⟩, HB.out _ _ _ _⟩ | exact ⟨0, 0, .inl ⟨rfl, .inr ⟨rfl, rfl, rfl, by omega⟩, HB.out _ _ _ _⟩⟩)
      · have hnoB : decide (t < g) = false := decide_eq_false hno
        go_enter Tryd.func31, Tryd.ntmps31
        go_wp2_with fail
        refine bodyPost_ret (v := .tuple #[.agg #[.int .i64 g, .int .i64 t], .bool true]) (by simp [results, Tryd.results31, go_sem] <;> first | rfl | omega) rfl (by first | exact ⟨g, t, true, rfl, .inl ⟨rfl, by omega, by omega, by omega⟩, HB.out _ _ _ _⟩ | exact ⟨g, t, .inr ⟨rfl, .inl ⟨rfl, by omega, by omega, by omega⟩, HB.out _ _ _ _⟩⟩)
  · by_cases hut : u < t
    · by_cases hno : u < f
      · go_enter Tryd.func31, Tryd.ntmps31
        go_wp2_with fail
        refine bodyPost_ret (v := .tuple #[.agg #[.int .i64 0, .int .i64 0], .bool false]) (by simp [results, Tryd.results31, go_sem] <;> first | rfl | omega) rfl (by first | exact ⟨0, 0, false, rfl, .inr ⟨rfl, rfl, rfl, by omega⟩, HB.out _ _ _ _⟩ | exact ⟨0, 0, .inl ⟨rfl, .inr ⟨rfl, rfl, rfl, by omega⟩, HB.out _ _ _ _⟩⟩)
      · have hnoB : decide (u < f) = false := decide_eq_false hno
        go_enter Tryd.func31, Tryd.ntmps31
        go_wp2_with fail
        refine bodyPost_ret (v := .tuple #[.agg #[.int .i64 f, .int .i64 u], .bool true]) (by simp [results, Tryd.results31, go_sem] <;> first | rfl | omega) rfl (by first | exact ⟨f, u, true, rfl, .inl ⟨rfl, by omega, by omega, by omega⟩, HB.out _ _ _ _⟩ | exact ⟨f, u, .inr ⟨rfl, .inl ⟨rfl, by omega, by omega, by omega⟩, HB.out _ _ _ _⟩⟩)
    · by_cases hno : t < f
      · go_enter Tryd.func31, Tryd.ntmps31
        go_wp2_with fail
        refine bodyPost_ret (v := .tuple #[.agg #[.int .i64 0, .int .i64 0], .bool false]) (by simp [results, Tryd.results31, go_sem] <;> first | rfl | omega) rfl (by first | exact ⟨0, 0, false, rfl, .inr ⟨rfl, rfl, rfl, by omega⟩, HB.out _ _ _ _⟩ | exact ⟨0, 0, .inl ⟨rfl, .inr ⟨rfl, rfl, rfl, by omega⟩, HB.out _ _ _ _⟩⟩)
      · have hnoB : decide (t < f) = false := decide_eq_false hno
        go_enter Tryd.func31, Tryd.ntmps31
        go_wp2_with fail
        refine bodyPost_ret (v := .tuple #[.agg #[.int .i64 f, .int .i64 t], .bool true]) (by simp [results, Tryd.results31, go_sem] <;> first | rfl | omega) rfl (by first | exact ⟨f, t, true, rfl, .inl ⟨rfl, by omega, by omega, by omega⟩, HB.out _ _ _ _⟩ | exact ⟨f, t, .inr ⟨rfl, .inl ⟨rfl, by omega, by omega, by omega⟩, HB.out _ _ _ _⟩⟩)

/-- How many days, or workdays, a period has. -/
def cntP (l : List Int) (basis f t : Int) : Int := if basis = 1 then t - f + 1 else cntD l f t
set_option maxHeartbeats 1000000 in
theorem count_any (f t basis : Int) (a : Option Addr) (n cap : Nat) (l : List Int) (w : World) (hb : basis = 1 ∨ basis = 2) (h0 : 0 ≤ f) (h1 : f ≤ t) (h2 : t ≤ 73048) (hc : Came w a l) (hn : l.length = n) (hm : n ≤ maxLen) (hk : checkE l [f, t] = 0) :
    Calls Tryd.prog 30 #[.agg #[.int .i64 f, .int .i64 t], .int .i64 basis, .slice a n cap] w fun e w' => e = .returned (.int .i64 (cntP l basis f t)) ∧ Below w.heap.size w w' := by
  have hb0 := (Below.refl w.heap.size w).alloc (Nat.le_refl _) (.cells #[.int .i64 f, .int .i64 t] 24)
  have HW := Lib.hid (Workdays_any f t a n cap l _ (hc.below hb0) hn hm)
  have HB0 := Lib.hid hb0
  clear hc hn hm hb0
  rcases hb with rfl | rfl
  · have HE : Hid (cntP l 1 f t = t - f + 1) := if_pos rfl
    go_enter Tryd.func30, Tryd.ntmps30
    go_wp2_with fail
    go_ret
    exact ⟨cret_int HE.out.symm, HB0.out⟩
  · have HE : Hid (cntP l 2 f t = cntD l f t) := if_neg (by omega)
    go_enter Tryd.func30, Tryd.ntmps30
    go_wp2_with fail
    refine HW.out.mono ?_
    rintro e w1 ⟨r, er, rfl, hE, hb1⟩
    have HB1 := Lib.hid (HB0.out.trans (hb1.mono HB0.out.size))
    obtain ⟨rfl, rfl⟩ : r = cntD l f t ∧ er = 0 := by
      rcases hE with ⟨h, _, _⟩ | ⟨_, h1, h2⟩
      · exact absurd hk h
      · exact ⟨h1, h2⟩
    clear hb1 hE
    go_wp2_with fail
    go_ret
    exact ⟨cret_int HE.out.symm, HB1.out⟩
end Go.Proofs.YtckealcgbjgfhaaDoor
