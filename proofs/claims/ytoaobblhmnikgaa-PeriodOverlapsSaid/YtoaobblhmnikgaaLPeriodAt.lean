/-
  The walk of the law PeriodAt: it answers true at every schedule and every int.
-/
import Derived.Test.YtoaobblhmnikgaaPBegun
import Derived.Test.YtoaobblhmnikgaaPRefAu
namespace Go.Proofs.Ytoaobblhmnikgaa
open Go.RowKit Go.Maps

theorem WeekP.unique {n A k f t e f' t' e' : Int} (h : WeekP n A k f t e) (h' : WeekP n A k f' t' e') : f = f' ∧ t = t' ∧ e = e' := by
  rcases h with ⟨a, b, c, d⟩ | ⟨a, b, c, d⟩ <;> rcases h' with ⟨a', b', c', d'⟩ | ⟨a', b', c', d'⟩
  · exact ⟨b.trans b'.symm, c.trans c'.symm, d.trans d'.symm⟩
  · omega
  · omega
  · exact ⟨b.trans b'.symm, c.trans c'.symm, d.trans d'.symm⟩
theorem MonP.unique {M f t e f' t' e' : Int} (h : MonP M f t e) (h' : MonP M f' t' e') : f = f' ∧ t = t' ∧ e = e' := by
  rcases h with ⟨a, b, c, d⟩ | ⟨a, b, c, d⟩ <;> rcases h' with ⟨a', b', c', d'⟩ | ⟨a', b', c', d'⟩
  · exact ⟨b.trans b'.symm, c.trans c'.symm, d.trans d'.symm⟩
  · omega
  · omega
  · exact ⟨b.trans b'.symm, c.trans c'.symm, d.trans d'.symm⟩
theorem HalfP.unique {M f t e f' t' e' : Int} (h : HalfP M f t e) (h' : HalfP M f' t' e') : f = f' ∧ t = t' ∧ e = e' := by
  rcases h with ⟨a, b, c, d⟩ | ⟨a, p, b, c, d⟩ | ⟨a, p, b, c, d⟩ <;> rcases h' with ⟨a', b', c', d'⟩ | ⟨a', p', b', c', d'⟩ | ⟨a', p', b', c', d'⟩ <;>
  first
  | exact ⟨b.trans b'.symm, c.trans c'.symm, d.trans d'.symm⟩
  | (exfalso; omega)
theorem PerIs.unique {K A k f t e f' t' e' : Int} (h : PerIs K A k f t e) (h' : PerIs K A k f' t' e') : f = f' ∧ t = t' ∧ e = e' := by
  rcases h with ⟨a, b⟩ | ⟨a, k0, m0, d0, hc, b⟩ | ⟨a, k0, m0, d0, hc, b⟩ <;> rcases h' with ⟨a', b'⟩ | ⟨a', k0', m0', d0', hc', b'⟩ | ⟨a', k0', m0', d0', hc', b'⟩
  · exact b.unique b'
  · omega
  · omega
  · omega
  · obtain ⟨rfl, rfl, rfl⟩ := hc.unique hc'
    exact b.unique b'
  · omega
  · omega
  · omega
  · obtain ⟨rfl, rfl, rfl⟩ := hc.unique hc'
    exact b.unique b'
theorem AtIs.unique {K A L k f t e f' t' e' : Int} (h : AtIs K A L k f t e) (h' : AtIs K A L k f' t' e') : f = f' ∧ t = t' ∧ e = e' := by
  rcases h with ⟨a, b, c, d⟩ | ⟨a, ⟨p, b, c, d⟩ | ⟨p, b⟩⟩ <;> rcases h' with ⟨a', b', c', d'⟩ | ⟨a', ⟨p', b', c', d'⟩ | ⟨p', b'⟩⟩
  · exact ⟨b.trans b'.symm, c.trans c'.symm, d.trans d'.symm⟩
  · exact absurd a' a
  · exact absurd a' a
  · exact absurd a a'
  · exact ⟨b.trans b'.symm, c.trans c'.symm, d.trans d'.symm⟩
  · omega
  · exact absurd a a'
  · omega
  · exact b.unique b'
theorem Sch3 {w w' : World} {b : Nat} {K A L : Int} (h0 : w.cell? ⟨b, 0, none⟩ = some (.int .i64 K)) (h1 : w.cell? ⟨b, 1, none⟩ = some (.int .i64 A)) (h2 : w.cell? ⟨b, 2, none⟩ = some (.int .i64 L)) (hb : Below w.heap.size w w') : w'.cell? ⟨b, 0, none⟩ = some (.int .i64 K) ∧ w'.cell? ⟨b, 1, none⟩ = some (.int .i64 A) ∧ w'.cell? ⟨b, 2, none⟩ = some (.int .i64 L) := by
  have hg := rlt h0
  exact ⟨(hb.cell (p := ⟨b, 0, none⟩) hg).trans h0, (hb.cell (p := ⟨b, 1, none⟩) hg).trans h1, (hb.cell (p := ⟨b, 2, none⟩) hg).trans h2⟩

set_option maxRecDepth 100000 in
set_option maxHeartbeats 1000000 in
theorem walk_periodAt (K A L : Int) (_ : (Lit.int .i64 K).wf = true) (_ : (Lit.int .i64 A).wf = true) (_ : (Lit.int .i64 L).wf = true) (k : Int) (_ : (Lit.int .i64 k).wf = true) (w : World) :
    Calls Try.prog 4 #[.agg #[.int .i64 K, .int .i64 A, .int .i64 L], .int .i64 k] w fun e w' => e = .returned (.bool true) ∧ Below w.heap.size w w' := by
  have HB0 := Lib.hid ((Below.refl w.heap.size w).alloc (Nat.le_refl _) (.cells #[.int .i64 K, .int .i64 A, .int .i64 L] 23))
  go_enter Try.func4, Try.ntmps4
  go_wp2_with fail
  refine (At_any K A L k _).mono ?_
  rintro e w1 ⟨f, t, er, rfl, hE, hb1⟩
  obtain ⟨x0, x1, x2⟩ := Sch3 (b := w.heap.size) (K := K) (A := A) (L := L) (by simp) (by simp) (by simp) hb1
  have HB1 := Lib.hid ((HB0.out.trans (hb1.mono HB0.out.size)).alloc (Nat.le_trans HB0.out.size hb1.size) (.cells #[.int .i64 f, .int .i64 t] 29))
  have HE := Lib.hid hE
  have hl := rlt x0
  have HPP := Lib.hid (PBx.made w1 f t 29)
  clear hb1 hE
  go_wp2_with fail
  refine (periodAt_ref K A L k _).mono ?_
  rintro e w2 ⟨f', t', er', rfl, hE', hb2⟩
  obtain ⟨rfl, rfl, rfl⟩ := hE'.unique HE.out
  have HB2 := Lib.hid ((HB1.out.trans (hb2.mono HB1.out.size)).alloc (Nat.le_trans HB1.out.size hb2.size) (.cells #[.int .i64 f', .int .i64 t'] 29))
  have HPP2 := Lib.hid ((HPP.out.below hb2).below ((Below.refl w2.heap.size w2).alloc (Nat.le_refl _) (.cells #[.int .i64 f', .int .i64 t'] 29)))
  have HPQ := Lib.hid (PBx.made w2 f' t' 29)
  clear hb2 hE' HPP x0 x1 x2 hl
  go_wp2_with fail
  refine (begun_any _).mono ?_
  rintro e w3 ⟨rfl, hb3⟩
  have HB3 := Lib.hid (HB2.out.trans (hb3.mono HB2.out.size))
  obtain ⟨y0, y1, _, _⟩ := HPP2.out.below hb3
  obtain ⟨z0, z1, _, _⟩ := HPQ.out.below hb3
  clear hb3
  go_wp2_with fail
  go_ret
  exact ⟨cret_bool (by simp), HB3.out⟩
end Go.Proofs.Ytoaobblhmnikgaa
