/-
  Promise I1: what must be in any case of values: the walk of valueBegun.
  The walk of the law ValueLines.
-/
import Derived.Test.YtjpjnmhjfpmglaaGreatDoorJS
import Derived.Test.YtjpjnmhjfpmglaaGreatDoorJI
set_option linter.unusedSimpArgs false
namespace Go.Proofs.YtjpjnmhjfpmglaaGreatDoor
open Go.RowKit Go.Maps Go.WideMaps

def noK : Kn := ⟨[], [], []⟩
theorem vb_E : linesE vbX = 0 := by decide +kernel
theorem vb_bind : BindIs vbX noK 0 0 := by
  refine .inr (.inr ⟨vb_E, by decide +kernel, .inl ⟨rfl, rfl, fun j hj => ?_⟩⟩)
  have : j = 0 ∨ j = 1 := by simp [vbX] at hj; omega
  rcases this with rfl | rfl <;> decide +kernel
theorem vb_vals : linesV vbX noK vbX.length = ([1000, 975], true) := by decide +kernel
theorem noK_came (w : World) : CameK w none none none noK := ⟨.inl rfl, .inl rfl, .inl rfl, fun j hj => absurd hj (by simp [noK]), fun j hj => absurd hj (by simp [noK]), by simp [noK], by simp [noK], by simp [noK]⟩
theorem vat2 (w : World) (x y : Int) : At (w.alloc (.cells #[.int .i64 x, .int .i64 y] 3)) w.heap.size 0 [x, y] := by
  refine ⟨by simp, fun j hj => ?_⟩
  have : j = 0 ∨ j = 1 := by simp at hj; omega
  rcases this with rfl | rfl <;> simp [nth]
/-- What Parse answers of a text that is right. -/
theorem ParseR.right {s : ByteArray} {L : List Tk} {l : List Ln} {w' : World} {B : Nat} {e : Ending} (hs : s.size ≤ 4000) (hT : Toks s s.size L) (hl : linesT (L ++ [endK s]) = some l) (h : ParseR s w' B e) : ∃ x c, e = .returned (.tuple #[.slice x l.length c, .agg #[.int .i64 0, .int .i64 0]]) ∧ CameF w' B x l := by
  rcases h with ⟨L', l', x, n, c, _, hT', hl', rfl, hc, hn⟩ | ⟨er, at', h0, rfl, hno⟩
  · rw [hT'.all hT, hl] at hl'
    injection hl' with hl'
    subst hl' hn
    exact ⟨x, c, rfl, hc⟩
  · rw [hno L hs hT] at hl
    cases hl
set_option maxRecDepth 100000 in
set_option maxHeartbeats 2000000 in
theorem valueBegun_any (w : World) (hV : PVars w) (hS : Shp w) : Calls Tryz.prog 12 #[] w fun e w' => e = .returned (.bool true) ∧ Below w.heap.size w w' := by
  have HP := Lib.hid (Parse_any vbT w (by decide) hV)
  have HS := Lib.hid hS
  clear hV hS
  go_enter Tryz.func12, Tryz.ntmps12
  go_wp2_with fail
  refine HP.out.mono ?_
  rintro e w1 ⟨hp, hb⟩
  obtain ⟨x, c, rfl, hc⟩ := hp.right (by decide) vb_toks vb_lines
  have HB1 := Lib.hid hb
  have HC1 := Lib.hid hc.came
  have hbb := kbelow_box w1 (.cells #[.int .i64 0, .int .i64 0] 49)
  have HB2 := Lib.hid (HB1.out.trans (hbb.mono HB1.out.size))
  have HVL := Lib.hid (VLines_any x vbX.length c vbX none none none 0 0 0 0 0 0 noK _ (HS.out.below HB2.out) (HC1.out.below hbb) rfl (by decide) (noK_came _) rfl rfl rfl)
  have HX2 := Lib.hid (two_made w1 (.int .i64 0) (.int .i64 0) 49)
  have hz2 : w1.heap.size < (w1.alloc (.cells #[.int .i64 0, .int .i64 0] 49)).heap.size := by simp
  clear hb hc hp hbb HP
  have hl2 : vbX.length = 2 := rfl
  rw [hl2] at HVL ⊢
  clear hl2
  go_wp2_with fail
  refine HVL.out.mono ?_
  intro e w3 hr
  obtain ⟨hb3, ⟨i, er, h0, hbi, rfl⟩ | ⟨_, vs, hv, rfl⟩ | ⟨_, vs, v, B, hv, _, hg, rfl⟩⟩ := hr
  · exact absurd (hbi.unique vb_bind).2 h0
  · rw [vb_vals] at hv
    cases (Prod.mk.inj hv).2
  · rw [vb_vals] at hv
    obtain rfl := (Prod.mk.inj hv).1
    obtain ⟨g, cg, rfl, _, o1⟩ := hg.own (by decide)
    have HB3 := Lib.hid (HB2.out.trans (hb3.mono HB2.out.size))
    obtain ⟨⟨y0, y1⟩, -⟩ := (HX2.out.below hb3 hz2).two
    have HA := Lib.hid o1.at
    have hk3 := kbelow_box w3 (.cells #[.int .i64 1000, .int .i64 975] 3)
    have HSM := Lib.hid (same_yes g 0 cg w3.heap.size 0 2 [1000, 975] _ (by decide) (HA.out.below hk3 HA.out.1) (vat2 w3 1000 975))
    clear hb3 hg o1 hk3 hv HVL
    have hl2 : [(1000 : Int), 975].length = 2 := rfl
    rw [hl2] at HSM ⊢
    clear hl2
    go_wp2_with fail
    refine HSM.out.mono ?_
    rintro e w4 ⟨rfl, k, rfl⟩
    go_wp2_with fail
    go_ret
    exact ⟨rfl, kbelow_dN (HB3.out.alloc HB3.out.size _) _⟩
end Go.Proofs.YtjpjnmhjfpmglaaGreatDoor
set_option linter.unusedSimpArgs false
namespace Go.Proofs.YtjpjnmhjfpmglaaGreatDoor
open Go.RowKit Go.Maps Go.WideMaps

theorem pv_below (w w' : World) (h : PVars w ∧ Shp w) (hb : Below w.heap.size w w') : PVars w' ∧ Shp w' := ⟨h.1.below hb, h.2.below hb⟩
theorem walk_valueLines (a : Option Addr) (n cap : Nat) (l : List Ln) (a1 : Option Addr) (n1 c1 : Nat) (a2 : Option Addr) (n2 c2 : Nat) (a3 : Option Addr) (n3 c3 : Nat) (k : Kn) {w : World} (hl : CameL w a l) (hn : l.length = n) (hm : n ≤ maxLen) (hc : CameK w a1 a2 a3 k) (h1 : k.ins.length = n1) (h2 : k.tbs.length = n2) (h3 : k.yrs.length = n3) (hP : PVars w ∧ Shp w) :
    Calls Tryz.prog 4 #[.slice a n cap, .agg #[.slice a1 n1 c1, .slice a2 n2 c2, .slice a3 n3 c3]] w fun e w' => e = .returned (.bool true) ∧ Below w.heap.size w w' :=
  walk_valueLines0 (fun w => PVars w ∧ Shp w) pv_below (fun w h => valueBegun_any w h.1 h.2) a n cap l a1 n1 c1 a2 n2 c2 a3 n3 c3 k hl hn hm hc h1 h2 h3 hP.2 hP
end Go.Proofs.YtjpjnmhjfpmglaaGreatDoor
