/-
  The walk of the law PeriodProrates: it answers true at all ints, periods and lists.
-/
import Derived.Test.YtoaobblhmnikgaaPBegun
import Derived.Test.YtoaobblhmnikgaaPProR
namespace Go.Proofs.Ytoaobblhmnikgaa
open Go.RowKit Go.Maps

theorem ProIs.unique {l : List Int} {am f t g u ba n e n' e' : Int} (h : ProIs l am f t g u ba n e) (h' : ProIs l am f t g u ba n' e') : n = n' ∧ e = e' := by
  rcases h with ⟨a, b, c⟩ | ⟨a, ⟨p, b, c⟩ | ⟨p, q, ⟨r, b, c⟩ | ⟨r, ⟨s, b, c⟩ | ⟨s, ⟨v, b, c⟩ | ⟨v, b, c⟩⟩⟩⟩⟩ <;>
  rcases h' with ⟨a', b', c'⟩ | ⟨a', ⟨p', b', c'⟩ | ⟨p', q', ⟨r', b', c'⟩ | ⟨r', ⟨s', b', c'⟩ | ⟨s', ⟨v', b', c'⟩ | ⟨v', b', c'⟩⟩⟩⟩⟩ <;>
  first
  | exact ⟨b.trans b'.symm, c.trans c'.symm⟩
  | (exfalso; omega)
  | (exfalso; contradiction)
  | (exfalso; rcases p with p | p <;> simp_all)
  | (exfalso; rcases p' with p' | p' <;> simp_all)
theorem ProIs.zero {l : List Int} {am f t g u ba n e : Int} (h : ProIs l am f t g u ba n e) (he : e ≠ 0) : n = 0 := by
  rcases h with ⟨a, b, c⟩ | ⟨a, ⟨p, b, c⟩ | ⟨p, q, ⟨r, b, c⟩ | ⟨r, ⟨s, b, c⟩ | ⟨s, ⟨v, b, c⟩ | ⟨v, b, c⟩⟩⟩⟩⟩ <;> first | exact b | exact absurd c he

set_option maxRecDepth 100000 in
set_option maxHeartbeats 1000000 in
theorem walk_periodProrates (am : Int) (_ : (Lit.int .i64 am).wf = true) (f t : Int) (_ : (Lit.int .i64 f).wf = true) (_ : (Lit.int .i64 t).wf = true) (g u : Int) (_ : (Lit.int .i64 g).wf = true) (_ : (Lit.int .i64 u).wf = true) (ba : Int) (_ : (Lit.int .i64 ba).wf = true) (w : World) (a : Option Addr) (n cap : Nat) (l : List Int) (hc : Came w a l) (hn : l.length = n) (hm : n ≤ maxLen) (_ : ∀ x ∈ l, (Lit.int .i64 x).wf = true) :
    Calls Try.prog 8 #[.int .i64 am, .agg #[.int .i64 f, .int .i64 t], .agg #[.int .i64 g, .int .i64 u], .int .i64 ba, .slice a n cap] w fun e w' => e = .returned (.bool true) ∧ Below w.heap.size w w' := by
  have HC := Lib.hid hc
  have HN := Lib.hid hn
  have HM := Lib.hid hm
  clear hc hn hm
  have HT0 := Lib.hid (Two.made w f t g u 29)
  have HB0 := Lib.hid (((Below.refl w.heap.size w).alloc (Nat.le_refl _) (.cells #[.int .i64 f, .int .i64 t] 29)).alloc (by simp) (.cells #[.int .i64 g, .int .i64 u] 29))
  go_enter Try.func8, Try.ntmps8
  go_wp2_with fail
  refine (Prorate_any am f t g u ba a n cap l _ (HC.out.below HB0.out) HN.out HM.out).mono ?_
  rintro e w1 ⟨r, er, rfl, hE, hb1⟩
  have HB1 := Lib.hid (HB0.out.trans (hb1.mono HB0.out.size))
  have HT1 := Lib.hid (HT0.out.below hb1)
  have HE := Lib.hid hE
  clear hb1 hE
  obtain ⟨⟨x0, x1⟩, ⟨y0, y1⟩, hl⟩ := HT1.out
  go_wp2_with fail
  refine (prorate_ref am f t g u ba a n cap l w1 (HC.out.below HB1.out) HN.out HM.out).mono ?_
  rintro e w2 ⟨r', er', rfl, hE', hb2⟩
  obtain ⟨rfl, rfl⟩ := hE'.unique HE.out
  have HB2 := Lib.hid (HB1.out.trans (hb2.mono HB1.out.size))
  clear hb2 hE' x0 x1 y0 y1 hl
  go_wp2_with fail
  refine (begun_any _).mono ?_
  rintro e w3 ⟨rfl, hb3⟩
  have HB3 := Lib.hid (HB2.out.trans (hb3.mono HB2.out.size))
  clear hb3
  go_wp2_with fail
  refine (numberIs_same _ _ _ (fun h => HE.out.zero h)).mono ?_
  rintro e w4 ⟨rfl, rfl⟩
  go_wp2_with fail
  go_ret
  exact ⟨rfl, HB3.out⟩
end Go.Proofs.Ytoaobblhmnikgaa
