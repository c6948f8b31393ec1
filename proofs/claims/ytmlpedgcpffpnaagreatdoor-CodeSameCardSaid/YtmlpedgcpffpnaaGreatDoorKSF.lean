/-
  Promise I1: what an expression with two Kids comes to: the walk of value's comesTo.
  Promise I1: what an expression with one Kid comes to: the walk of value's comesTo.
  Promise I1: what an expression that chooses comes to: the walks of value's chosen and comesTo.
  Promise I1: what an expression comes to: value's comesTo, over whatever right expression.
  Promise I1: where lines are right, each name in them means a line ahead, or an input; and what is known is right.
-/
import Derived.Test.YtmlpedgcpffpnaaGreatDoorKSE
import Derived.Deep.RegionWith
import Derived.Test.YtmlpedgcpffpnaaGreatDoorKS4
namespace Go.Proofs.YtmlpedgcpffpnaaGreatDoor
open Go.RowKit Go.Maps Go.WideMaps
theorem val_two {l : List Ln} {kn : Kn} {vs : List Int} {k n : Int} {s : ByteArray} {m : Nat} {kid : Nat → Ex} (h : k = 7 ∨ k = 8 ∨ k = 11 ∨ k = 12) : (Ex.mk k n s m kid).val l kn vs = ((kid 0).val l kn vs).bind fun a => ((kid 1).val l kn vs).bind fun b => twoO k a b := by
 rw [Ex.val, if_neg (by omega), if_neg (by omega), if_neg (by omega), if_pos h]
def EndIs (v : Option Int) (e : Ending) : Prop := (v = none ∧ e = .panicked (gaveU 3)) ∨ ∃ z, v = some z ∧ e = .returned (.int .i64 z)
theorem EndIs.of {v : Option Int} {e : Ending} (h : e = vEnd v) : EndIs v e := by
 cases v with
 | none => exact .inl ⟨rfl, h⟩
 | some z => exact .inr ⟨z, rfl, h⟩
theorem ofTwo_end (k a b : Int) (w : World) (ha : monB a = true) (hb : monB b = true) : Calls Tryz.prog 89 #[.int .i64 k, .int .i64 a, .int .i64 b] w fun e w' => EndIs (twoO k a b) e ∧ w' = w :=
 (ofTwo_any k a b w ha hb).mono fun _ _ h => ⟨.of h.1, h.2⟩
def ComesEnd (v : Option Int) (k n : Int) (s : ByteArray) (a : Option Addr) (m c sb : Nat) (w0 : World) : Prop := ∀ w : World, Below w0.heap.size w0 w →
    Calls Tryz.prog 46 #[.pointer (some ⟨sb, 0, none⟩), .agg #[.int .i64 k, .int .i64 n, .string s, .slice a m c]] w fun e w' => EndIs v e ∧ Below w.heap.size w w'
theorem ComesIs.end {l : List Ln} {kn : Kn} {vs : List Int} {x : Ex} (h : ComesIs l kn vs x) {a : Option Addr} {c sb : Nat} {w0 : World} (hs : VSc w0 sb l kn vs) (hk : KidsAt w0 x a) : ComesEnd (x.val l kn vs) x.k x.n x.s a x.m c sb w0 := fun w hb =>
 (h a c sb w (hs.below hb) (hk.below hb)).mono fun _ _ h => ⟨.of h.1, h.2⟩
set_option maxRecDepth 100000 in
set_option maxHeartbeats 1000000 in
theorem comes_7 (l : List Ln) (kn : Kn) (vs : List Int) (n : Int) (s : ByteArray) (kid : Nat → Ex) (i0 : ComesIs l kn vs (kid 0)) (i1 : ComesIs l kn vs (kid 1)) (m0 : ∀ v, (kid 0).val l kn vs = some v → monB v = true) (m1 : ∀ v, (kid 1).val l kn vs = some v → monB v = true) : ComesIs l kn vs (.mk 7 n s 2 kid) := by
 intro a c sb w hsc hk
 show Calls Tryz.prog 46 #[.pointer (some ⟨sb, 0, none⟩), .agg #[.int .i64 7, .int .i64 n, .string s, .slice a (2 : Nat) c]] w _
 have HB0 := Lib.hid (kbelow_box w (.cells #[.int .i64 7, .int .i64 n, .string s, .slice a (2 : Nat) c] 50))
 have HX0 := Lib.hid (XBox.made w 7 n s a 2 c 50)
 have HS := Lib.hid (hsc.below HB0.out)
 have HV := Lib.hid (val_two (l := l) (kn := kn) (vs := vs) (k := 7) (n := n) (s := s) (m := 2) (kid := kid) (by decide))
 obtain ⟨b, o, rfl, hcell⟩ := hk.open (show 0 < 2 by omega)
 obtain ⟨q0, d0, ⟨x0, x1, x2, x3⟩, hk0⟩ := hcell _ HB0.out 0 (show 0 < 2 by omega)
 obtain ⟨q1, d1, ⟨y0, y1, y2, y3⟩, hk1⟩ := hcell _ HB0.out 1 (show 1 < 2 by omega)
 have HI0 := Lib.hid (i0.end (c := d0) HS.out hk0)
 have HI1 := Lib.hid (i1.end (c := d1) HS.out hk1)
 clear HS
 rw [HV.out]
 clear hsc hk hcell hk0 hk1 i0 i1 HV
 have x0' : (w.alloc (.cells #[.int .i64 7, .int .i64 n, .string s, .slice (some ⟨b, o, none⟩) (2 : Nat) c] 50)).cell? ⟨b, o, none⟩ = some (.int .i64 (kid 0).k) := x0
 have x1' : (w.alloc (.cells #[.int .i64 7, .int .i64 n, .string s, .slice (some ⟨b, o, none⟩) (2 : Nat) c] 50)).cell? ⟨b, o + 1, none⟩ = some (.int .i64 (kid 0).n) := x1
 have x2' : (w.alloc (.cells #[.int .i64 7, .int .i64 n, .string s, .slice (some ⟨b, o, none⟩) (2 : Nat) c] 50)).cell? ⟨b, o + 2, none⟩ = some (.string (kid 0).s) := x2
 have x3' : (w.alloc (.cells #[.int .i64 7, .int .i64 n, .string s, .slice (some ⟨b, o, none⟩) (2 : Nat) c] 50)).cell? ⟨b, o + 3, none⟩ = some (.slice q0 (kid 0).m d0) := x3
 have y0' : (w.alloc (.cells #[.int .i64 7, .int .i64 n, .string s, .slice (some ⟨b, o, none⟩) (2 : Nat) c] 50)).cell? ⟨b, o + 4, none⟩ = some (.int .i64 (kid 1).k) := y0
 have y1' : (w.alloc (.cells #[.int .i64 7, .int .i64 n, .string s, .slice (some ⟨b, o, none⟩) (2 : Nat) c] 50)).cell? ⟨b, o + 4 + 1, none⟩ = some (.int .i64 (kid 1).n) := y1
 have y2' : (w.alloc (.cells #[.int .i64 7, .int .i64 n, .string s, .slice (some ⟨b, o, none⟩) (2 : Nat) c] 50)).cell? ⟨b, o + 4 + 2, none⟩ = some (.string (kid 1).s) := y2
 have y3' : (w.alloc (.cells #[.int .i64 7, .int .i64 n, .string s, .slice (some ⟨b, o, none⟩) (2 : Nat) c] 50)).cell? ⟨b, o + 4 + 3, none⟩ = some (.slice q1 (kid 1).m d1) := y3
 clear x0 x1 x2 x3 y0 y1 y2 y3
 generalize (kid 0).k = k0 at *
 generalize (kid 0).n = n0 at *
 generalize (kid 0).s = s0 at *
 generalize (kid 0).m = l0 at *
 generalize (kid 1).k = k1 at *
 generalize (kid 1).n = n1 at *
 generalize (kid 1).s = s1 at *
 generalize (kid 1).m = l1 at *
 generalize hv0 : (kid 0).val l kn vs = v0 at *
 generalize hv1 : (kid 1).val l kn vs = v1 at *
 clear hv0 hv1
 go_enter Tryz.func46, Tryz.ntmps46
 go_wp2_with fail
 obtain ⟨hg, u0, _, _, u3⟩ := HX0.out
 clear HX0
 generalize (w.alloc (.cells #[.int .i64 7, .int .i64 n, .string s, .slice (some ⟨b, o, none⟩) (2 : Nat) c] 50)) = W at *
 go_region_held (fun w' => w'.cell? ⟨w.heap.size, 0, none⟩ = some (.int .i64 7) ∧ w'.cell? ⟨w.heap.size, 3, none⟩ = some (.slice (some ⟨b, o, none⟩) (2 : Nat) c) ∧ w'.cell? ⟨b, o, none⟩ = some (.int .i64 k0) ∧ w'.cell? ⟨b, o + 1, none⟩ = some (.int .i64 n0) ∧ w'.cell? ⟨b, o + 2, none⟩ = some (.string s0) ∧ w'.cell? ⟨b, o + 3, none⟩ = some (.slice q0 l0 d0) ∧ w'.cell? ⟨b, o + 4, none⟩ = some (.int .i64 k1) ∧ w'.cell? ⟨b, o + 4 + 1, none⟩ = some (.int .i64 n1) ∧ w'.cell? ⟨b, o + 4 + 2, none⟩ = some (.string s1) ∧ w'.cell? ⟨b, o + 4 + 3, none⟩ = some (.slice q1 l1 d1)) (go_keep)
  (first
   | (have := HX2; go_at_call 89; refine (ofTwo_end 7 z0 z1 _ (m0 z0 HZ0.out) (m1 z1 HZ1.out)).mono ?_; rintro e w3 ⟨⟨hr, rfl⟩ | ⟨r, hr, rfl⟩, h3⟩
      ·subst w3
       exact ⟨rfl, by rw [HZ0.out, HZ1.out]; exact congrArg vEnd hr.symm, HB2.out⟩
      subst w3
      have HR := Lib.hid hr
      clear hr
      have t0 := (HX2.out.cell (p := ⟨w.heap.size, 0, none⟩) (blt_of_cell u0)).trans u0
      have t1 := (HX2.out.cell (p := ⟨w.heap.size, 3, none⟩) (blt_of_cell u3)).trans u3
      have t2 := (HX2.out.cell (p := ⟨b, o, none⟩) (blt_of_cell x0')).trans x0'
      have t3 := (HX2.out.cell (p := ⟨b, o + 1, none⟩) (blt_of_cell x1')).trans x1'
      have t4 := (HX2.out.cell (p := ⟨b, o + 2, none⟩) (blt_of_cell x2')).trans x2'
      have t5 := (HX2.out.cell (p := ⟨b, o + 3, none⟩) (blt_of_cell x3')).trans x3'
      have t6 := (HX2.out.cell (p := ⟨b, o + 4, none⟩) (blt_of_cell y0')).trans y0'
      have t7 := (HX2.out.cell (p := ⟨b, o + 4 + 1, none⟩) (blt_of_cell y1')).trans y1'
      have t8 := (HX2.out.cell (p := ⟨b, o + 4 + 2, none⟩) (blt_of_cell y2')).trans y2'
      have t9 := (HX2.out.cell (p := ⟨b, o + 4 + 3, none⟩) (blt_of_cell y3')).trans y3')
   | (have := HX1; go_at_call_of 46 k1; refine (HI1.out _ HX1.out).mono ?_; rintro e w2 ⟨⟨hz1, rfl⟩ | ⟨z1, hz1, rfl⟩, hb2⟩
      ·exact ⟨rfl, by rw [HZ0.out, hz1]; rfl, HB1.out.trans (hb2.mono HB1.out.size)⟩
      have HB2 := Lib.hid (HB1.out.trans (hb2.mono HB1.out.size))
      have HX2 := Lib.hid (HX1.out.trans (hb2.mono HX1.out.size))
      have HZ1 := Lib.hid hz1
      clear hb2 hz1
      have s0 := (HX2.out.cell (p := ⟨w.heap.size, 0, none⟩) (blt_of_cell u0)).trans u0
      have s1 := (HX2.out.cell (p := ⟨w.heap.size, 3, none⟩) (blt_of_cell u3)).trans u3
      have s2 := (HX2.out.cell (p := ⟨b, o, none⟩) (blt_of_cell x0')).trans x0'
      have s3 := (HX2.out.cell (p := ⟨b, o + 1, none⟩) (blt_of_cell x1')).trans x1'
      have s4 := (HX2.out.cell (p := ⟨b, o + 2, none⟩) (blt_of_cell x2')).trans x2'
      have s5 := (HX2.out.cell (p := ⟨b, o + 3, none⟩) (blt_of_cell x3')).trans x3'
      have s6 := (HX2.out.cell (p := ⟨b, o + 4, none⟩) (blt_of_cell y0')).trans y0'
      have s7 := (HX2.out.cell (p := ⟨b, o + 4 + 1, none⟩) (blt_of_cell y1')).trans y1'
      have s8 := (HX2.out.cell (p := ⟨b, o + 4 + 2, none⟩) (blt_of_cell y2')).trans y2'
      have s9 := (HX2.out.cell (p := ⟨b, o + 4 + 3, none⟩) (blt_of_cell y3')).trans y3')
   | (go_at_call_of 46 k0; refine (HI0.out _ (kbelow_dN (Below.refl _ _) 1)).mono ?_; rintro e w1 ⟨⟨hz0, rfl⟩ | ⟨z0, hz0, rfl⟩, hb1⟩
      ·exact ⟨rfl, by rw [hz0]; rfl, HB0.out.trans ((nfrom_drew hb1).mono HB0.out.size)⟩
      have HB1 := Lib.hid (HB0.out.trans ((nfrom_drew hb1).mono HB0.out.size))
      have HX1 := Lib.hid (nfrom_drew hb1)
      have HZ0 := Lib.hid hz0
      clear hb1 hz0
      have r0 := (HX1.out.cell (p := ⟨w.heap.size, 0, none⟩) (blt_of_cell u0)).trans u0
      have r1 := (HX1.out.cell (p := ⟨w.heap.size, 3, none⟩) (blt_of_cell u3)).trans u3
      have r2 := (HX1.out.cell (p := ⟨b, o, none⟩) (blt_of_cell x0')).trans x0'
      have r3 := (HX1.out.cell (p := ⟨b, o + 1, none⟩) (blt_of_cell x1')).trans x1'
      have r4 := (HX1.out.cell (p := ⟨b, o + 2, none⟩) (blt_of_cell x2')).trans x2'
      have r5 := (HX1.out.cell (p := ⟨b, o + 3, none⟩) (blt_of_cell x3')).trans x3'
      have r6 := (HX1.out.cell (p := ⟨b, o + 4, none⟩) (blt_of_cell y0')).trans y0'
      have r7 := (HX1.out.cell (p := ⟨b, o + 4 + 1, none⟩) (blt_of_cell y1')).trans y1'
      have r8 := (HX1.out.cell (p := ⟨b, o + 4 + 2, none⟩) (blt_of_cell y2')).trans y2'
      have r9 := (HX1.out.cell (p := ⟨b, o + 4 + 3, none⟩) (blt_of_cell y3')).trans y3'))
 go_wp2_with fail
 go_ret
 exact ⟨by rw [HZ0.out, HZ1.out]; exact congrArg vEnd HR.out.symm, HB2.out⟩
set_option maxRecDepth 100000 in
set_option maxHeartbeats 1000000 in
theorem comes_8 (l : List Ln) (kn : Kn) (vs : List Int) (n : Int) (s : ByteArray) (kid : Nat → Ex) (i0 : ComesIs l kn vs (kid 0)) (i1 : ComesIs l kn vs (kid 1)) (m0 : ∀ v, (kid 0).val l kn vs = some v → monB v = true) (m1 : ∀ v, (kid 1).val l kn vs = some v → monB v = true) : ComesIs l kn vs (.mk 8 n s 2 kid) := by
 intro a c sb w hsc hk
 show Calls Tryz.prog 46 #[.pointer (some ⟨sb, 0, none⟩), .agg #[.int .i64 8, .int .i64 n, .string s, .slice a (2 : Nat) c]] w _
 have HB0 := Lib.hid (kbelow_box w (.cells #[.int .i64 8, .int .i64 n, .string s, .slice a (2 : Nat) c] 50))
 have HX0 := Lib.hid (XBox.made w 8 n s a 2 c 50)
 have HS := Lib.hid (hsc.below HB0.out)
 have HV := Lib.hid (val_two (l := l) (kn := kn) (vs := vs) (k := 8) (n := n) (s := s) (m := 2) (kid := kid) (by decide))
 obtain ⟨b, o, rfl, hcell⟩ := hk.open (show 0 < 2 by omega)
 obtain ⟨q0, d0, ⟨x0, x1, x2, x3⟩, hk0⟩ := hcell _ HB0.out 0 (show 0 < 2 by omega)
 obtain ⟨q1, d1, ⟨y0, y1, y2, y3⟩, hk1⟩ := hcell _ HB0.out 1 (show 1 < 2 by omega)
 have HI0 := Lib.hid (i0.end (c := d0) HS.out hk0)
 have HI1 := Lib.hid (i1.end (c := d1) HS.out hk1)
 clear HS
 rw [HV.out]
 clear hsc hk hcell hk0 hk1 i0 i1 HV
 have x0' : (w.alloc (.cells #[.int .i64 8, .int .i64 n, .string s, .slice (some ⟨b, o, none⟩) (2 : Nat) c] 50)).cell? ⟨b, o, none⟩ = some (.int .i64 (kid 0).k) := x0
 have x1' : (w.alloc (.cells #[.int .i64 8, .int .i64 n, .string s, .slice (some ⟨b, o, none⟩) (2 : Nat) c] 50)).cell? ⟨b, o + 1, none⟩ = some (.int .i64 (kid 0).n) := x1
 have x2' : (w.alloc (.cells #[.int .i64 8, .int .i64 n, .string s, .slice (some ⟨b, o, none⟩) (2 : Nat) c] 50)).cell? ⟨b, o + 2, none⟩ = some (.string (kid 0).s) := x2
 have x3' : (w.alloc (.cells #[.int .i64 8, .int .i64 n, .string s, .slice (some ⟨b, o, none⟩) (2 : Nat) c] 50)).cell? ⟨b, o + 3, none⟩ = some (.slice q0 (kid 0).m d0) := x3
 have y0' : (w.alloc (.cells #[.int .i64 8, .int .i64 n, .string s, .slice (some ⟨b, o, none⟩) (2 : Nat) c] 50)).cell? ⟨b, o + 4, none⟩ = some (.int .i64 (kid 1).k) := y0
 have y1' : (w.alloc (.cells #[.int .i64 8, .int .i64 n, .string s, .slice (some ⟨b, o, none⟩) (2 : Nat) c] 50)).cell? ⟨b, o + 4 + 1, none⟩ = some (.int .i64 (kid 1).n) := y1
 have y2' : (w.alloc (.cells #[.int .i64 8, .int .i64 n, .string s, .slice (some ⟨b, o, none⟩) (2 : Nat) c] 50)).cell? ⟨b, o + 4 + 2, none⟩ = some (.string (kid 1).s) := y2
 have y3' : (w.alloc (.cells #[.int .i64 8, .int .i64 n, .string s, .slice (some ⟨b, o, none⟩) (2 : Nat) c] 50)).cell? ⟨b, o + 4 + 3, none⟩ = some (.slice q1 (kid 1).m d1) := y3
 clear x0 x1 x2 x3 y0 y1 y2 y3
 generalize (kid 0).k = k0 at *
 generalize (kid 0).n = n0 at *
 generalize (kid 0).s = s0 at *
 generalize (kid 0).m = l0 at *
 generalize (kid 1).k = k1 at *
 generalize (kid 1).n = n1 at *
 generalize (kid 1).s = s1 at *
 generalize (kid 1).m = l1 at *
 generalize hv0 : (kid 0).val l kn vs = v0 at *
 generalize hv1 : (kid 1).val l kn vs = v1 at *
 clear hv0 hv1
 go_enter Tryz.func46, Tryz.ntmps46
 go_wp2_with fail
 obtain ⟨hg, u0, _, _, u3⟩ := HX0.out
 clear HX0
 generalize (w.alloc (.cells #[.int .i64 8, .int .i64 n, .string s, .slice (some ⟨b, o, none⟩) (2 : Nat) c] 50)) = W at *
 go_region_held (fun w' => w'.cell? ⟨w.heap.size, 0, none⟩ = some (.int .i64 8) ∧ w'.cell? ⟨w.heap.size, 3, none⟩ = some (.slice (some ⟨b, o, none⟩) (2 : Nat) c) ∧ w'.cell? ⟨b, o, none⟩ = some (.int .i64 k0) ∧ w'.cell? ⟨b, o + 1, none⟩ = some (.int .i64 n0) ∧ w'.cell? ⟨b, o + 2, none⟩ = some (.string s0) ∧ w'.cell? ⟨b, o + 3, none⟩ = some (.slice q0 l0 d0) ∧ w'.cell? ⟨b, o + 4, none⟩ = some (.int .i64 k1) ∧ w'.cell? ⟨b, o + 4 + 1, none⟩ = some (.int .i64 n1) ∧ w'.cell? ⟨b, o + 4 + 2, none⟩ = some (.string s1) ∧ w'.cell? ⟨b, o + 4 + 3, none⟩ = some (.slice q1 l1 d1)) (go_keep)
  (first
   | (have := HX2; go_at_call 89; refine (ofTwo_end 8 z0 z1 _ (m0 z0 HZ0.out) (m1 z1 HZ1.out)).mono ?_; rintro e w3 ⟨⟨hr, rfl⟩ | ⟨r, hr, rfl⟩, h3⟩
      ·subst w3
       exact ⟨rfl, by rw [HZ0.out, HZ1.out]; exact congrArg vEnd hr.symm, HB2.out⟩
      subst w3
      have HR := Lib.hid hr
      clear hr
      have t0 := (HX2.out.cell (p := ⟨w.heap.size, 0, none⟩) (blt_of_cell u0)).trans u0
      have t1 := (HX2.out.cell (p := ⟨w.heap.size, 3, none⟩) (blt_of_cell u3)).trans u3
      have t2 := (HX2.out.cell (p := ⟨b, o, none⟩) (blt_of_cell x0')).trans x0'
      have t3 := (HX2.out.cell (p := ⟨b, o + 1, none⟩) (blt_of_cell x1')).trans x1'
      have t4 := (HX2.out.cell (p := ⟨b, o + 2, none⟩) (blt_of_cell x2')).trans x2'
      have t5 := (HX2.out.cell (p := ⟨b, o + 3, none⟩) (blt_of_cell x3')).trans x3'
      have t6 := (HX2.out.cell (p := ⟨b, o + 4, none⟩) (blt_of_cell y0')).trans y0'
      have t7 := (HX2.out.cell (p := ⟨b, o + 4 + 1, none⟩) (blt_of_cell y1')).trans y1'
      have t8 := (HX2.out.cell (p := ⟨b, o + 4 + 2, none⟩) (blt_of_cell y2')).trans y2'
      have t9 := (HX2.out.cell (p := ⟨b, o + 4 + 3, none⟩) (blt_of_cell y3')).trans y3')
   | (have := HX1; go_at_call_of 46 k1; refine (HI1.out _ HX1.out).mono ?_; rintro e w2 ⟨⟨hz1, rfl⟩ | ⟨z1, hz1, rfl⟩, hb2⟩
      ·exact ⟨rfl, by rw [HZ0.out, hz1]; rfl, HB1.out.trans (hb2.mono HB1.out.size)⟩
      have HB2 := Lib.hid (HB1.out.trans (hb2.mono HB1.out.size))
      have HX2 := Lib.hid (HX1.out.trans (hb2.mono HX1.out.size))
      have HZ1 := Lib.hid hz1
      clear hb2 hz1
      have s0 := (HX2.out.cell (p := ⟨w.heap.size, 0, none⟩) (blt_of_cell u0)).trans u0
      have s1 := (HX2.out.cell (p := ⟨w.heap.size, 3, none⟩) (blt_of_cell u3)).trans u3
      have s2 := (HX2.out.cell (p := ⟨b, o, none⟩) (blt_of_cell x0')).trans x0'
      have s3 := (HX2.out.cell (p := ⟨b, o + 1, none⟩) (blt_of_cell x1')).trans x1'
      have s4 := (HX2.out.cell (p := ⟨b, o + 2, none⟩) (blt_of_cell x2')).trans x2'
      have s5 := (HX2.out.cell (p := ⟨b, o + 3, none⟩) (blt_of_cell x3')).trans x3'
      have s6 := (HX2.out.cell (p := ⟨b, o + 4, none⟩) (blt_of_cell y0')).trans y0'
      have s7 := (HX2.out.cell (p := ⟨b, o + 4 + 1, none⟩) (blt_of_cell y1')).trans y1'
      have s8 := (HX2.out.cell (p := ⟨b, o + 4 + 2, none⟩) (blt_of_cell y2')).trans y2'
      have s9 := (HX2.out.cell (p := ⟨b, o + 4 + 3, none⟩) (blt_of_cell y3')).trans y3')
   | (go_at_call_of 46 k0; refine (HI0.out _ (kbelow_dN (Below.refl _ _) 1)).mono ?_; rintro e w1 ⟨⟨hz0, rfl⟩ | ⟨z0, hz0, rfl⟩, hb1⟩
      ·exact ⟨rfl, by rw [hz0]; rfl, HB0.out.trans ((nfrom_drew hb1).mono HB0.out.size)⟩
      have HB1 := Lib.hid (HB0.out.trans ((nfrom_drew hb1).mono HB0.out.size))
      have HX1 := Lib.hid (nfrom_drew hb1)
      have HZ0 := Lib.hid hz0
      clear hb1 hz0
      have r0 := (HX1.out.cell (p := ⟨w.heap.size, 0, none⟩) (blt_of_cell u0)).trans u0
      have r1 := (HX1.out.cell (p := ⟨w.heap.size, 3, none⟩) (blt_of_cell u3)).trans u3
      have r2 := (HX1.out.cell (p := ⟨b, o, none⟩) (blt_of_cell x0')).trans x0'
      have r3 := (HX1.out.cell (p := ⟨b, o + 1, none⟩) (blt_of_cell x1')).trans x1'
      have r4 := (HX1.out.cell (p := ⟨b, o + 2, none⟩) (blt_of_cell x2')).trans x2'
      have r5 := (HX1.out.cell (p := ⟨b, o + 3, none⟩) (blt_of_cell x3')).trans x3'
      have r6 := (HX1.out.cell (p := ⟨b, o + 4, none⟩) (blt_of_cell y0')).trans y0'
      have r7 := (HX1.out.cell (p := ⟨b, o + 4 + 1, none⟩) (blt_of_cell y1')).trans y1'
      have r8 := (HX1.out.cell (p := ⟨b, o + 4 + 2, none⟩) (blt_of_cell y2')).trans y2'
      have r9 := (HX1.out.cell (p := ⟨b, o + 4 + 3, none⟩) (blt_of_cell y3')).trans y3'))
 go_wp2_with fail
 go_ret
 exact ⟨by rw [HZ0.out, HZ1.out]; exact congrArg vEnd HR.out.symm, HB2.out⟩
set_option maxRecDepth 100000 in
set_option maxHeartbeats 1000000 in
theorem comes_11 (l : List Ln) (kn : Kn) (vs : List Int) (n : Int) (s : ByteArray) (kid : Nat → Ex) (i0 : ComesIs l kn vs (kid 0)) (i1 : ComesIs l kn vs (kid 1)) (m0 : ∀ v, (kid 0).val l kn vs = some v → monB v = true) (m1 : ∀ v, (kid 1).val l kn vs = some v → monB v = true) : ComesIs l kn vs (.mk 11 n s 2 kid) := by
 intro a c sb w hsc hk
 show Calls Tryz.prog 46 #[.pointer (some ⟨sb, 0, none⟩), .agg #[.int .i64 11, .int .i64 n, .string s, .slice a (2 : Nat) c]] w _
 have HB0 := Lib.hid (kbelow_box w (.cells #[.int .i64 11, .int .i64 n, .string s, .slice a (2 : Nat) c] 50))
 have HX0 := Lib.hid (XBox.made w 11 n s a 2 c 50)
 have HS := Lib.hid (hsc.below HB0.out)
 have HV := Lib.hid (val_two (l := l) (kn := kn) (vs := vs) (k := 11) (n := n) (s := s) (m := 2) (kid := kid) (by decide))
 obtain ⟨b, o, rfl, hcell⟩ := hk.open (show 0 < 2 by omega)
 obtain ⟨q0, d0, ⟨x0, x1, x2, x3⟩, hk0⟩ := hcell _ HB0.out 0 (show 0 < 2 by omega)
 obtain ⟨q1, d1, ⟨y0, y1, y2, y3⟩, hk1⟩ := hcell _ HB0.out 1 (show 1 < 2 by omega)
 have HI0 := Lib.hid (i0.end (c := d0) HS.out hk0)
 have HI1 := Lib.hid (i1.end (c := d1) HS.out hk1)
 clear HS
 rw [HV.out]
 clear hsc hk hcell hk0 hk1 i0 i1 HV
 have x0' : (w.alloc (.cells #[.int .i64 11, .int .i64 n, .string s, .slice (some ⟨b, o, none⟩) (2 : Nat) c] 50)).cell? ⟨b, o, none⟩ = some (.int .i64 (kid 0).k) := x0
 have x1' : (w.alloc (.cells #[.int .i64 11, .int .i64 n, .string s, .slice (some ⟨b, o, none⟩) (2 : Nat) c] 50)).cell? ⟨b, o + 1, none⟩ = some (.int .i64 (kid 0).n) := x1
 have x2' : (w.alloc (.cells #[.int .i64 11, .int .i64 n, .string s, .slice (some ⟨b, o, none⟩) (2 : Nat) c] 50)).cell? ⟨b, o + 2, none⟩ = some (.string (kid 0).s) := x2
 have x3' : (w.alloc (.cells #[.int .i64 11, .int .i64 n, .string s, .slice (some ⟨b, o, none⟩) (2 : Nat) c] 50)).cell? ⟨b, o + 3, none⟩ = some (.slice q0 (kid 0).m d0) := x3
 have y0' : (w.alloc (.cells #[.int .i64 11, .int .i64 n, .string s, .slice (some ⟨b, o, none⟩) (2 : Nat) c] 50)).cell? ⟨b, o + 4, none⟩ = some (.int .i64 (kid 1).k) := y0
 have y1' : (w.alloc (.cells #[.int .i64 11, .int .i64 n, .string s, .slice (some ⟨b, o, none⟩) (2 : Nat) c] 50)).cell? ⟨b, o + 4 + 1, none⟩ = some (.int .i64 (kid 1).n) := y1
 have y2' : (w.alloc (.cells #[.int .i64 11, .int .i64 n, .string s, .slice (some ⟨b, o, none⟩) (2 : Nat) c] 50)).cell? ⟨b, o + 4 + 2, none⟩ = some (.string (kid 1).s) := y2
 have y3' : (w.alloc (.cells #[.int .i64 11, .int .i64 n, .string s, .slice (some ⟨b, o, none⟩) (2 : Nat) c] 50)).cell? ⟨b, o + 4 + 3, none⟩ = some (.slice q1 (kid 1).m d1) := y3
 clear x0 x1 x2 x3 y0 y1 y2 y3
 generalize (kid 0).k = k0 at *
 generalize (kid 0).n = n0 at *
 generalize (kid 0).s = s0 at *
 generalize (kid 0).m = l0 at *
 generalize (kid 1).k = k1 at *
 generalize (kid 1).n = n1 at *
 generalize (kid 1).s = s1 at *
 generalize (kid 1).m = l1 at *
 generalize hv0 : (kid 0).val l kn vs = v0 at *
 generalize hv1 : (kid 1).val l kn vs = v1 at *
 clear hv0 hv1
 go_enter Tryz.func46, Tryz.ntmps46
 go_wp2_with fail
 obtain ⟨hg, u0, _, _, u3⟩ := HX0.out
 clear HX0
 generalize (w.alloc (.cells #[.int .i64 11, .int .i64 n, .string s, .slice (some ⟨b, o, none⟩) (2 : Nat) c] 50)) = W at *
 go_region_held (fun w' => w'.cell? ⟨w.heap.size, 0, none⟩ = some (.int .i64 11) ∧ w'.cell? ⟨w.heap.size, 3, none⟩ = some (.slice (some ⟨b, o, none⟩) (2 : Nat) c) ∧ w'.cell? ⟨b, o, none⟩ = some (.int .i64 k0) ∧ w'.cell? ⟨b, o + 1, none⟩ = some (.int .i64 n0) ∧ w'.cell? ⟨b, o + 2, none⟩ = some (.string s0) ∧ w'.cell? ⟨b, o + 3, none⟩ = some (.slice q0 l0 d0) ∧ w'.cell? ⟨b, o + 4, none⟩ = some (.int .i64 k1) ∧ w'.cell? ⟨b, o + 4 + 1, none⟩ = some (.int .i64 n1) ∧ w'.cell? ⟨b, o + 4 + 2, none⟩ = some (.string s1) ∧ w'.cell? ⟨b, o + 4 + 3, none⟩ = some (.slice q1 l1 d1)) (go_keep)
  (first
   | (have := HX2; go_at_call 89; refine (ofTwo_end 11 z0 z1 _ (m0 z0 HZ0.out) (m1 z1 HZ1.out)).mono ?_; rintro e w3 ⟨⟨hr, rfl⟩ | ⟨r, hr, rfl⟩, h3⟩
      ·subst w3
       exact ⟨rfl, by rw [HZ0.out, HZ1.out]; exact congrArg vEnd hr.symm, HB2.out⟩
      subst w3
      have HR := Lib.hid hr
      clear hr
      have t0 := (HX2.out.cell (p := ⟨w.heap.size, 0, none⟩) (blt_of_cell u0)).trans u0
      have t1 := (HX2.out.cell (p := ⟨w.heap.size, 3, none⟩) (blt_of_cell u3)).trans u3
      have t2 := (HX2.out.cell (p := ⟨b, o, none⟩) (blt_of_cell x0')).trans x0'
      have t3 := (HX2.out.cell (p := ⟨b, o + 1, none⟩) (blt_of_cell x1')).trans x1'
      have t4 := (HX2.out.cell (p := ⟨b, o + 2, none⟩) (blt_of_cell x2')).trans x2'
      have t5 := (HX2.out.cell (p := ⟨b, o + 3, none⟩) (blt_of_cell x3')).trans x3'
      have t6 := (HX2.out.cell (p := ⟨b, o + 4, none⟩) (blt_of_cell y0')).trans y0'
      have t7 := (HX2.out.cell (p := ⟨b, o + 4 + 1, none⟩) (blt_of_cell y1')).trans y1'
      have t8 := (HX2.out.cell (p := ⟨b, o + 4 + 2, none⟩) (blt_of_cell y2')).trans y2'
      have t9 := (HX2.out.cell (p := ⟨b, o + 4 + 3, none⟩) (blt_of_cell y3')).trans y3')
   | (have := HX1; go_at_call_of 46 k1; refine (HI1.out _ HX1.out).mono ?_; rintro e w2 ⟨⟨hz1, rfl⟩ | ⟨z1, hz1, rfl⟩, hb2⟩
      ·exact ⟨rfl, by rw [HZ0.out, hz1]; rfl, HB1.out.trans (hb2.mono HB1.out.size)⟩
      have HB2 := Lib.hid (HB1.out.trans (hb2.mono HB1.out.size))
      have HX2 := Lib.hid (HX1.out.trans (hb2.mono HX1.out.size))
      have HZ1 := Lib.hid hz1
      clear hb2 hz1
      have s0 := (HX2.out.cell (p := ⟨w.heap.size, 0, none⟩) (blt_of_cell u0)).trans u0
      have s1 := (HX2.out.cell (p := ⟨w.heap.size, 3, none⟩) (blt_of_cell u3)).trans u3
      have s2 := (HX2.out.cell (p := ⟨b, o, none⟩) (blt_of_cell x0')).trans x0'
      have s3 := (HX2.out.cell (p := ⟨b, o + 1, none⟩) (blt_of_cell x1')).trans x1'
      have s4 := (HX2.out.cell (p := ⟨b, o + 2, none⟩) (blt_of_cell x2')).trans x2'
      have s5 := (HX2.out.cell (p := ⟨b, o + 3, none⟩) (blt_of_cell x3')).trans x3'
      have s6 := (HX2.out.cell (p := ⟨b, o + 4, none⟩) (blt_of_cell y0')).trans y0'
      have s7 := (HX2.out.cell (p := ⟨b, o + 4 + 1, none⟩) (blt_of_cell y1')).trans y1'
      have s8 := (HX2.out.cell (p := ⟨b, o + 4 + 2, none⟩) (blt_of_cell y2')).trans y2'
      have s9 := (HX2.out.cell (p := ⟨b, o + 4 + 3, none⟩) (blt_of_cell y3')).trans y3')
   | (go_at_call_of 46 k0; refine (HI0.out _ (kbelow_dN (Below.refl _ _) 1)).mono ?_; rintro e w1 ⟨⟨hz0, rfl⟩ | ⟨z0, hz0, rfl⟩, hb1⟩
      ·exact ⟨rfl, by rw [hz0]; rfl, HB0.out.trans ((nfrom_drew hb1).mono HB0.out.size)⟩
      have HB1 := Lib.hid (HB0.out.trans ((nfrom_drew hb1).mono HB0.out.size))
      have HX1 := Lib.hid (nfrom_drew hb1)
      have HZ0 := Lib.hid hz0
      clear hb1 hz0
      have r0 := (HX1.out.cell (p := ⟨w.heap.size, 0, none⟩) (blt_of_cell u0)).trans u0
      have r1 := (HX1.out.cell (p := ⟨w.heap.size, 3, none⟩) (blt_of_cell u3)).trans u3
      have r2 := (HX1.out.cell (p := ⟨b, o, none⟩) (blt_of_cell x0')).trans x0'
      have r3 := (HX1.out.cell (p := ⟨b, o + 1, none⟩) (blt_of_cell x1')).trans x1'
      have r4 := (HX1.out.cell (p := ⟨b, o + 2, none⟩) (blt_of_cell x2')).trans x2'
      have r5 := (HX1.out.cell (p := ⟨b, o + 3, none⟩) (blt_of_cell x3')).trans x3'
      have r6 := (HX1.out.cell (p := ⟨b, o + 4, none⟩) (blt_of_cell y0')).trans y0'
      have r7 := (HX1.out.cell (p := ⟨b, o + 4 + 1, none⟩) (blt_of_cell y1')).trans y1'
      have r8 := (HX1.out.cell (p := ⟨b, o + 4 + 2, none⟩) (blt_of_cell y2')).trans y2'
      have r9 := (HX1.out.cell (p := ⟨b, o + 4 + 3, none⟩) (blt_of_cell y3')).trans y3'))
 go_wp2_with fail
 go_ret
 exact ⟨by rw [HZ0.out, HZ1.out]; exact congrArg vEnd HR.out.symm, HB2.out⟩
set_option maxRecDepth 100000 in
set_option maxHeartbeats 1000000 in
theorem comes_12 (l : List Ln) (kn : Kn) (vs : List Int) (n : Int) (s : ByteArray) (kid : Nat → Ex) (i0 : ComesIs l kn vs (kid 0)) (i1 : ComesIs l kn vs (kid 1)) (m0 : ∀ v, (kid 0).val l kn vs = some v → monB v = true) (m1 : ∀ v, (kid 1).val l kn vs = some v → monB v = true) : ComesIs l kn vs (.mk 12 n s 2 kid) := by
 intro a c sb w hsc hk
 show Calls Tryz.prog 46 #[.pointer (some ⟨sb, 0, none⟩), .agg #[.int .i64 12, .int .i64 n, .string s, .slice a (2 : Nat) c]] w _
 have HB0 := Lib.hid (kbelow_box w (.cells #[.int .i64 12, .int .i64 n, .string s, .slice a (2 : Nat) c] 50))
 have HX0 := Lib.hid (XBox.made w 12 n s a 2 c 50)
 have HS := Lib.hid (hsc.below HB0.out)
 have HV := Lib.hid (val_two (l := l) (kn := kn) (vs := vs) (k := 12) (n := n) (s := s) (m := 2) (kid := kid) (by decide))
 obtain ⟨b, o, rfl, hcell⟩ := hk.open (show 0 < 2 by omega)
 obtain ⟨q0, d0, ⟨x0, x1, x2, x3⟩, hk0⟩ := hcell _ HB0.out 0 (show 0 < 2 by omega)
 obtain ⟨q1, d1, ⟨y0, y1, y2, y3⟩, hk1⟩ := hcell _ HB0.out 1 (show 1 < 2 by omega)
 have HI0 := Lib.hid (i0.end (c := d0) HS.out hk0)
 have HI1 := Lib.hid (i1.end (c := d1) HS.out hk1)
 clear HS
 rw [HV.out]
 clear hsc hk hcell hk0 hk1 i0 i1 HV
 have x0' : (w.alloc (.cells #[.int .i64 12, .int .i64 n, .string s, .slice (some ⟨b, o, none⟩) (2 : Nat) c] 50)).cell? ⟨b, o, none⟩ = some (.int .i64 (kid 0).k) := x0
 have x1' : (w.alloc (.cells #[.int .i64 12, .int .i64 n, .string s, .slice (some ⟨b, o, none⟩) (2 : Nat) c] 50)).cell? ⟨b, o + 1, none⟩ = some (.int .i64 (kid 0).n) := x1
 have x2' : (w.alloc (.cells #[.int .i64 12, .int .i64 n, .string s, .slice (some ⟨b, o, none⟩) (2 : Nat) c] 50)).cell? ⟨b, o + 2, none⟩ = some (.string (kid 0).s) := x2
 have x3' : (w.alloc (.cells #[.int .i64 12, .int .i64 n, .string s, .slice (some ⟨b, o, none⟩) (2 : Nat) c] 50)).cell? ⟨b, o + 3, none⟩ = some (.slice q0 (kid 0).m d0) := x3
 have y0' : (w.alloc (.cells #[.int .i64 12, .int .i64 n, .string s, .slice (some ⟨b, o, none⟩) (2 : Nat) c] 50)).cell? ⟨b, o + 4, none⟩ = some (.int .i64 (kid 1).k) := y0
 have y1' : (w.alloc (.cells #[.int .i64 12, .int .i64 n, .string s, .slice (some ⟨b, o, none⟩) (2 : Nat) c] 50)).cell? ⟨b, o + 4 + 1, none⟩ = some (.int .i64 (kid 1).n) := y1
 have y2' : (w.alloc (.cells #[.int .i64 12, .int .i64 n, .string s, .slice (some ⟨b, o, none⟩) (2 : Nat) c] 50)).cell? ⟨b, o + 4 + 2, none⟩ = some (.string (kid 1).s) := y2
 have y3' : (w.alloc (.cells #[.int .i64 12, .int .i64 n, .string s, .slice (some ⟨b, o, none⟩) (2 : Nat) c] 50)).cell? ⟨b, o + 4 + 3, none⟩ = some (.slice q1 (kid 1).m d1) := y3
 clear x0 x1 x2 x3 y0 y1 y2 y3
 generalize (kid 0).k = k0 at *
 generalize (kid 0).n = n0 at *
 generalize (kid 0).s = s0 at *
 generalize (kid 0).m = l0 at *
 generalize (kid 1).k = k1 at *
 generalize (kid 1).n = n1 at *
 generalize (kid 1).s = s1 at *
 generalize (kid 1).m = l1 at *
 generalize hv0 : (kid 0).val l kn vs = v0 at *
 generalize hv1 : (kid 1).val l kn vs = v1 at *
 clear hv0 hv1
 go_enter Tryz.func46, Tryz.ntmps46
 go_wp2_with fail
 obtain ⟨hg, u0, _, _, u3⟩ := HX0.out
 clear HX0
 generalize (w.alloc (.cells #[.int .i64 12, .int .i64 n, .string s, .slice (some ⟨b, o, none⟩) (2 : Nat) c] 50)) = W at *
 go_region_held (fun w' => w'.cell? ⟨w.heap.size, 0, none⟩ = some (.int .i64 12) ∧ w'.cell? ⟨w.heap.size, 3, none⟩ = some (.slice (some ⟨b, o, none⟩) (2 : Nat) c) ∧ w'.cell? ⟨b, o, none⟩ = some (.int .i64 k0) ∧ w'.cell? ⟨b, o + 1, none⟩ = some (.int .i64 n0) ∧ w'.cell? ⟨b, o + 2, none⟩ = some (.string s0) ∧ w'.cell? ⟨b, o + 3, none⟩ = some (.slice q0 l0 d0) ∧ w'.cell? ⟨b, o + 4, none⟩ = some (.int .i64 k1) ∧ w'.cell? ⟨b, o + 4 + 1, none⟩ = some (.int .i64 n1) ∧ w'.cell? ⟨b, o + 4 + 2, none⟩ = some (.string s1) ∧ w'.cell? ⟨b, o + 4 + 3, none⟩ = some (.slice q1 l1 d1)) (go_keep)
  (first
   | (have := HX2; go_at_call 89; refine (ofTwo_end 12 z0 z1 _ (m0 z0 HZ0.out) (m1 z1 HZ1.out)).mono ?_; rintro e w3 ⟨⟨hr, rfl⟩ | ⟨r, hr, rfl⟩, h3⟩
      ·subst w3
       exact ⟨rfl, by rw [HZ0.out, HZ1.out]; exact congrArg vEnd hr.symm, HB2.out⟩
      subst w3
      have HR := Lib.hid hr
      clear hr
      have t0 := (HX2.out.cell (p := ⟨w.heap.size, 0, none⟩) (blt_of_cell u0)).trans u0
      have t1 := (HX2.out.cell (p := ⟨w.heap.size, 3, none⟩) (blt_of_cell u3)).trans u3
      have t2 := (HX2.out.cell (p := ⟨b, o, none⟩) (blt_of_cell x0')).trans x0'
      have t3 := (HX2.out.cell (p := ⟨b, o + 1, none⟩) (blt_of_cell x1')).trans x1'
      have t4 := (HX2.out.cell (p := ⟨b, o + 2, none⟩) (blt_of_cell x2')).trans x2'
      have t5 := (HX2.out.cell (p := ⟨b, o + 3, none⟩) (blt_of_cell x3')).trans x3'
      have t6 := (HX2.out.cell (p := ⟨b, o + 4, none⟩) (blt_of_cell y0')).trans y0'
      have t7 := (HX2.out.cell (p := ⟨b, o + 4 + 1, none⟩) (blt_of_cell y1')).trans y1'
      have t8 := (HX2.out.cell (p := ⟨b, o + 4 + 2, none⟩) (blt_of_cell y2')).trans y2'
      have t9 := (HX2.out.cell (p := ⟨b, o + 4 + 3, none⟩) (blt_of_cell y3')).trans y3')
   | (have := HX1; go_at_call_of 46 k1; refine (HI1.out _ HX1.out).mono ?_; rintro e w2 ⟨⟨hz1, rfl⟩ | ⟨z1, hz1, rfl⟩, hb2⟩
      ·exact ⟨rfl, by rw [HZ0.out, hz1]; rfl, HB1.out.trans (hb2.mono HB1.out.size)⟩
      have HB2 := Lib.hid (HB1.out.trans (hb2.mono HB1.out.size))
      have HX2 := Lib.hid (HX1.out.trans (hb2.mono HX1.out.size))
      have HZ1 := Lib.hid hz1
      clear hb2 hz1
      have s0 := (HX2.out.cell (p := ⟨w.heap.size, 0, none⟩) (blt_of_cell u0)).trans u0
      have s1 := (HX2.out.cell (p := ⟨w.heap.size, 3, none⟩) (blt_of_cell u3)).trans u3
      have s2 := (HX2.out.cell (p := ⟨b, o, none⟩) (blt_of_cell x0')).trans x0'
      have s3 := (HX2.out.cell (p := ⟨b, o + 1, none⟩) (blt_of_cell x1')).trans x1'
      have s4 := (HX2.out.cell (p := ⟨b, o + 2, none⟩) (blt_of_cell x2')).trans x2'
      have s5 := (HX2.out.cell (p := ⟨b, o + 3, none⟩) (blt_of_cell x3')).trans x3'
      have s6 := (HX2.out.cell (p := ⟨b, o + 4, none⟩) (blt_of_cell y0')).trans y0'
      have s7 := (HX2.out.cell (p := ⟨b, o + 4 + 1, none⟩) (blt_of_cell y1')).trans y1'
      have s8 := (HX2.out.cell (p := ⟨b, o + 4 + 2, none⟩) (blt_of_cell y2')).trans y2'
      have s9 := (HX2.out.cell (p := ⟨b, o + 4 + 3, none⟩) (blt_of_cell y3')).trans y3')
   | (go_at_call_of 46 k0; refine (HI0.out _ (kbelow_dN (Below.refl _ _) 1)).mono ?_; rintro e w1 ⟨⟨hz0, rfl⟩ | ⟨z0, hz0, rfl⟩, hb1⟩
      ·exact ⟨rfl, by rw [hz0]; rfl, HB0.out.trans ((nfrom_drew hb1).mono HB0.out.size)⟩
      have HB1 := Lib.hid (HB0.out.trans ((nfrom_drew hb1).mono HB0.out.size))
      have HX1 := Lib.hid (nfrom_drew hb1)
      have HZ0 := Lib.hid hz0
      clear hb1 hz0
      have r0 := (HX1.out.cell (p := ⟨w.heap.size, 0, none⟩) (blt_of_cell u0)).trans u0
      have r1 := (HX1.out.cell (p := ⟨w.heap.size, 3, none⟩) (blt_of_cell u3)).trans u3
      have r2 := (HX1.out.cell (p := ⟨b, o, none⟩) (blt_of_cell x0')).trans x0'
      have r3 := (HX1.out.cell (p := ⟨b, o + 1, none⟩) (blt_of_cell x1')).trans x1'
      have r4 := (HX1.out.cell (p := ⟨b, o + 2, none⟩) (blt_of_cell x2')).trans x2'
      have r5 := (HX1.out.cell (p := ⟨b, o + 3, none⟩) (blt_of_cell x3')).trans x3'
      have r6 := (HX1.out.cell (p := ⟨b, o + 4, none⟩) (blt_of_cell y0')).trans y0'
      have r7 := (HX1.out.cell (p := ⟨b, o + 4 + 1, none⟩) (blt_of_cell y1')).trans y1'
      have r8 := (HX1.out.cell (p := ⟨b, o + 4 + 2, none⟩) (blt_of_cell y2')).trans y2'
      have r9 := (HX1.out.cell (p := ⟨b, o + 4 + 3, none⟩) (blt_of_cell y3')).trans y3'))
 go_wp2_with fail
 go_ret
 exact ⟨by rw [HZ0.out, HZ1.out]; exact congrArg vEnd HR.out.symm, HB2.out⟩
end Go.Proofs.YtmlpedgcpffpnaaGreatDoor
namespace Go.Proofs.YtmlpedgcpffpnaaGreatDoor
open Go.RowKit Go.Maps Go.WideMaps
theorem val_one {l : List Ln} {kn : Kn} {vs : List Int} {k n : Int} {s : ByteArray} {m : Nat} {kid : Nat → Ex} (h : k = 4 ∨ k = 5 ∨ k = 6 ∨ k = 9 ∨ k = 10) : (Ex.mk k n s m kid).val l kn vs = ((kid 0).val l kn vs).bind fun a => oneO kn k n s a := by
 rw [Ex.val, if_neg (by omega), if_neg (by omega), if_neg (by omega), if_neg (by omega), if_neg (by omega)]
def OneIs (l : List Ln) (kn : Kn) (vs : List Int) (k n : Int) (s : ByteArray) : Prop := ∀ (a : Option Addr) (m c sb : Nat) (w : World) (z : Int), VSc w sb l kn vs → monB z = true →
    Calls Tryz.prog 91 #[.pointer (some ⟨sb, 0, none⟩), .agg #[.int .i64 k, .int .i64 n, .string s, .slice a m c], .int .i64 z] w fun e w' => EndIs (oneO kn k n s z) e ∧ Below w.heap.size w w'
set_option maxRecDepth 100000 in
set_option maxHeartbeats 1000000 in
theorem comes_one (l : List Ln) (kn : Kn) (vs : List Int) (k n : Int) (s : ByteArray) (kid : Nat → Ex) (hkk : k = 4 ∨ k = 5 ∨ k = 6 ∨ k = 9 ∨ k = 10) (i0 : ComesIs l kn vs (kid 0)) (m0 : ∀ v, (kid 0).val l kn vs = some v → monB v = true) (ho : OneIs l kn vs k n s) : ComesIs l kn vs (.mk k n s 1 kid) := by
 intro a c sb w hsc hk
 show Calls Tryz.prog 46 #[.pointer (some ⟨sb, 0, none⟩), .agg #[.int .i64 k, .int .i64 n, .string s, .slice a (1 : Nat) c]] w _
 have HB0 := Lib.hid (kbelow_box w (.cells #[.int .i64 k, .int .i64 n, .string s, .slice a (1 : Nat) c] 50))
 have HX0 := Lib.hid (XBox.made w k n s a 1 c 50)
 have HS := Lib.hid (hsc.below HB0.out)
 have HV := Lib.hid (val_one (l := l) (kn := kn) (vs := vs) (k := k) (n := n) (s := s) (m := 1) (kid := kid) hkk)
 obtain ⟨b, o, rfl, hcell⟩ := hk.open (show 0 < 1 by omega)
 obtain ⟨q0, d0, ⟨x0, x1, x2, x3⟩, hk0⟩ := hcell _ HB0.out 0 (show 0 < 1 by omega)
 have HI0 := Lib.hid (i0.end (c := d0) HS.out hk0)
 have HO := Lib.hid (fun w' z (hb : Below (w.alloc (.cells #[.int .i64 k, .int .i64 n, .string s, .slice (some ⟨b, o, none⟩) (1 : Nat) c] 50)).heap.size (w.alloc (.cells #[.int .i64 k, .int .i64 n, .string s, .slice (some ⟨b, o, none⟩) (1 : Nat) c] 50)) w') hz => ho (some ⟨b, o, none⟩) 1 c sb w' z (HS.out.below hb) hz)
 rw [HV.out]
 clear hsc hk hcell hk0 i0 HV HS ho
 have x0' : (w.alloc (.cells #[.int .i64 k, .int .i64 n, .string s, .slice (some ⟨b, o, none⟩) (1 : Nat) c] 50)).cell? ⟨b, o, none⟩ = some (.int .i64 (kid 0).k) := x0
 have x1' : (w.alloc (.cells #[.int .i64 k, .int .i64 n, .string s, .slice (some ⟨b, o, none⟩) (1 : Nat) c] 50)).cell? ⟨b, o + 1, none⟩ = some (.int .i64 (kid 0).n) := x1
 have x2' : (w.alloc (.cells #[.int .i64 k, .int .i64 n, .string s, .slice (some ⟨b, o, none⟩) (1 : Nat) c] 50)).cell? ⟨b, o + 2, none⟩ = some (.string (kid 0).s) := x2
 have x3' : (w.alloc (.cells #[.int .i64 k, .int .i64 n, .string s, .slice (some ⟨b, o, none⟩) (1 : Nat) c] 50)).cell? ⟨b, o + 3, none⟩ = some (.slice q0 (kid 0).m d0) := x3
 clear x0 x1 x2 x3
 generalize (kid 0).k = k0 at *
 generalize (kid 0).n = n0 at *
 generalize (kid 0).s = s0 at *
 generalize (kid 0).m = l0 at *
 generalize hv0 : (kid 0).val l kn vs = v0 at *
 clear hv0
 have e1 : (k == 1) = false := by simp; omega
 have e2 : (k == 2) = false := by simp; omega
 have e3 : (k == 3) = false := by simp; omega
 have e7 : (k == 7) = false := by simp; omega
 have e8 : (k == 8) = false := by simp; omega
 have e11 : (k == 11) = false := by simp; omega
 have e12 : (k == 12) = false := by simp; omega
 have e13 : (k == 13) = false := by simp; omega
 clear hkk
 go_enter Tryz.func46, Tryz.ntmps46
 go_wp2_with fail
 obtain ⟨hg, u0, u1, u2, u3⟩ := HX0.out
 clear HX0
 generalize (w.alloc (.cells #[.int .i64 k, .int .i64 n, .string s, .slice (some ⟨b, o, none⟩) (1 : Nat) c] 50)) = W at *
 go_region_held (fun w' => w'.cell? ⟨w.heap.size, 0, none⟩ = some (.int .i64 k) ∧ w'.cell? ⟨w.heap.size, 1, none⟩ = some (.int .i64 n) ∧ w'.cell? ⟨w.heap.size, 2, none⟩ = some (.string s) ∧ w'.cell? ⟨w.heap.size, 3, none⟩ = some (.slice (some ⟨b, o, none⟩) (1 : Nat) c) ∧ w'.cell? ⟨b, o, none⟩ = some (.int .i64 k0) ∧ w'.cell? ⟨b, o + 1, none⟩ = some (.int .i64 n0) ∧ w'.cell? ⟨b, o + 2, none⟩ = some (.string s0) ∧ w'.cell? ⟨b, o + 3, none⟩ = some (.slice q0 l0 d0)) (go_keep)
  (first
   | (have := HX1; go_at_call 91; refine (HO.out _ z0 HX1.out (m0 z0 HZ0.out)).mono ?_; rintro e w2 ⟨⟨hr, rfl⟩ | ⟨r, hr, rfl⟩, hb2⟩
      ·exact ⟨rfl, by rw [HZ0.out]; exact congrArg vEnd hr.symm, HB1.out.trans (hb2.mono HB1.out.size)⟩
      have HB2 := Lib.hid (HB1.out.trans (hb2.mono HB1.out.size))
      have HX2 := Lib.hid (HX1.out.trans (hb2.mono HX1.out.size))
      have HR := Lib.hid hr
      clear hr hb2
      have t0 := (HX2.out.cell (p := ⟨w.heap.size, 0, none⟩) (blt_of_cell u0)).trans u0
      have t1 := (HX2.out.cell (p := ⟨w.heap.size, 1, none⟩) (blt_of_cell u1)).trans u1
      have t2 := (HX2.out.cell (p := ⟨w.heap.size, 2, none⟩) (blt_of_cell u2)).trans u2
      have t3 := (HX2.out.cell (p := ⟨w.heap.size, 3, none⟩) (blt_of_cell u3)).trans u3
      have t4 := (HX2.out.cell (p := ⟨b, o, none⟩) (blt_of_cell x0')).trans x0'
      have t5 := (HX2.out.cell (p := ⟨b, o + 1, none⟩) (blt_of_cell x1')).trans x1'
      have t6 := (HX2.out.cell (p := ⟨b, o + 2, none⟩) (blt_of_cell x2')).trans x2'
      have t7 := (HX2.out.cell (p := ⟨b, o + 3, none⟩) (blt_of_cell x3')).trans x3')
   | (go_at_call 46; refine (HI0.out _ (kbelow_dN (Below.refl _ _) 1)).mono ?_; rintro e w1 ⟨⟨hz0, rfl⟩ | ⟨z0, hz0, rfl⟩, hb1⟩
      ·exact ⟨rfl, by rw [hz0]; rfl, HB0.out.trans ((nfrom_drew hb1).mono HB0.out.size)⟩
      have HB1 := Lib.hid (HB0.out.trans ((nfrom_drew hb1).mono HB0.out.size))
      have HX1 := Lib.hid (nfrom_drew hb1)
      have HZ0 := Lib.hid hz0
      clear hb1 hz0
      have r0 := (HX1.out.cell (p := ⟨w.heap.size, 0, none⟩) (blt_of_cell u0)).trans u0
      have r1 := (HX1.out.cell (p := ⟨w.heap.size, 1, none⟩) (blt_of_cell u1)).trans u1
      have r2 := (HX1.out.cell (p := ⟨w.heap.size, 2, none⟩) (blt_of_cell u2)).trans u2
      have r3 := (HX1.out.cell (p := ⟨w.heap.size, 3, none⟩) (blt_of_cell u3)).trans u3
      have r4 := (HX1.out.cell (p := ⟨b, o, none⟩) (blt_of_cell x0')).trans x0'
      have r5 := (HX1.out.cell (p := ⟨b, o + 1, none⟩) (blt_of_cell x1')).trans x1'
      have r6 := (HX1.out.cell (p := ⟨b, o + 2, none⟩) (blt_of_cell x2')).trans x2'
      have r7 := (HX1.out.cell (p := ⟨b, o + 3, none⟩) (blt_of_cell x3')).trans x3'))
 go_wp2_with fail
 go_ret
 exact ⟨by rw [HZ0.out]; exact congrArg vEnd HR.out.symm, HB2.out⟩
end Go.Proofs.YtmlpedgcpffpnaaGreatDoor
namespace Go.Proofs.YtmlpedgcpffpnaaGreatDoor
open Go.RowKit Go.Maps Go.WideMaps
theorem val_if {l : List Ln} {kn : Kn} {vs : List Int} {n : Int} {s : ByteArray} {m : Nat} {kid : Nat → Ex} : (Ex.mk 13 n s m kid).val l kn vs = ((kid 0).val l kn vs).bind fun a => ((kid 1).val l kn vs).bind fun b => if holdB n a b = true then (kid 2).val l kn vs else (kid 3).val l kn vs := by
 rw [Ex.val, if_neg (by omega), if_neg (by omega), if_neg (by omega), if_neg (by omega), if_pos rfl]
set_option maxRecDepth 100000 in
set_option maxHeartbeats 1000000 in
theorem chosen_any (l : List Ln) (kn : Kn) (vs : List Int) (n : Int) (s : ByteArray) (kid : Nat → Ex) (i : ∀ j, j < 4 → ComesIs l kn vs (kid j)) (a : Option Addr) (c sb : Nat) (w : World) (hsc : VSc w sb l kn vs) (hk : KidsAt w (.mk 13 n s 4 kid) a) :
 Calls Tryz.prog 90 #[.pointer (some ⟨sb, 0, none⟩), .agg #[.int .i64 13, .int .i64 n, .string s, .slice a (4 : Nat) c]] w fun e w' => e = vEnd ((Ex.mk 13 n s 4 kid).val l kn vs) ∧ Below w.heap.size w w' := by
 have HB0 := Lib.hid (kbelow_box w (.cells #[.int .i64 13, .int .i64 n, .string s, .slice a (4 : Nat) c] 50))
 have HX0 := Lib.hid (XBox.made w 13 n s a 4 c 50)
 have HS := Lib.hid (hsc.below HB0.out)
 have HV := Lib.hid (val_if (l := l) (kn := kn) (vs := vs) (n := n) (s := s) (m := 4) (kid := kid))
 obtain ⟨b, o, rfl, hcell⟩ := hk.open (show 0 < 4 by omega)
 obtain ⟨q0, d0, ⟨x0, x1, x2, x3⟩, hk0⟩ := hcell _ HB0.out 0 (show 0 < 4 by omega)
 obtain ⟨q1, d1, ⟨y0, y1, y2, y3⟩, hk1⟩ := hcell _ HB0.out 1 (show 1 < 4 by omega)
 obtain ⟨q2, d2, ⟨f0, f1, f2, f3⟩, hk2⟩ := hcell _ HB0.out 2 (show 2 < 4 by omega)
 obtain ⟨q3, d3, ⟨p0, p1, p2, p3⟩, hk3⟩ := hcell _ HB0.out 3 (show 3 < 4 by omega)
 have HI0 := Lib.hid ((i 0 (by omega)).end (c := d0) HS.out hk0)
 have HI1 := Lib.hid ((i 1 (by omega)).end (c := d1) HS.out hk1)
 have HI2 := Lib.hid ((i 2 (by omega)).end (c := d2) HS.out hk2)
 have HI3 := Lib.hid ((i 3 (by omega)).end (c := d3) HS.out hk3)
 rw [HV.out]
 clear hsc hk hcell hk0 hk1 hk2 hk3 i HV HS
 have x0' : (w.alloc (.cells #[.int .i64 13, .int .i64 n, .string s, .slice (some ⟨b, o, none⟩) (4 : Nat) c] 50)).cell? ⟨b, o, none⟩ = some (.int .i64 (kid 0).k) := x0
 have x1' : (w.alloc (.cells #[.int .i64 13, .int .i64 n, .string s, .slice (some ⟨b, o, none⟩) (4 : Nat) c] 50)).cell? ⟨b, o + 1, none⟩ = some (.int .i64 (kid 0).n) := x1
 have x2' : (w.alloc (.cells #[.int .i64 13, .int .i64 n, .string s, .slice (some ⟨b, o, none⟩) (4 : Nat) c] 50)).cell? ⟨b, o + 2, none⟩ = some (.string (kid 0).s) := x2
 have x3' : (w.alloc (.cells #[.int .i64 13, .int .i64 n, .string s, .slice (some ⟨b, o, none⟩) (4 : Nat) c] 50)).cell? ⟨b, o + 3, none⟩ = some (.slice q0 (kid 0).m d0) := x3
 have y0' : (w.alloc (.cells #[.int .i64 13, .int .i64 n, .string s, .slice (some ⟨b, o, none⟩) (4 : Nat) c] 50)).cell? ⟨b, o + 4, none⟩ = some (.int .i64 (kid 1).k) := y0
 have y1' : (w.alloc (.cells #[.int .i64 13, .int .i64 n, .string s, .slice (some ⟨b, o, none⟩) (4 : Nat) c] 50)).cell? ⟨b, o + 4 + 1, none⟩ = some (.int .i64 (kid 1).n) := y1
 have y2' : (w.alloc (.cells #[.int .i64 13, .int .i64 n, .string s, .slice (some ⟨b, o, none⟩) (4 : Nat) c] 50)).cell? ⟨b, o + 4 + 2, none⟩ = some (.string (kid 1).s) := y2
 have y3' : (w.alloc (.cells #[.int .i64 13, .int .i64 n, .string s, .slice (some ⟨b, o, none⟩) (4 : Nat) c] 50)).cell? ⟨b, o + 4 + 3, none⟩ = some (.slice q1 (kid 1).m d1) := y3
 have f0' : (w.alloc (.cells #[.int .i64 13, .int .i64 n, .string s, .slice (some ⟨b, o, none⟩) (4 : Nat) c] 50)).cell? ⟨b, o + 8, none⟩ = some (.int .i64 (kid 2).k) := f0
 have f1' : (w.alloc (.cells #[.int .i64 13, .int .i64 n, .string s, .slice (some ⟨b, o, none⟩) (4 : Nat) c] 50)).cell? ⟨b, o + 8 + 1, none⟩ = some (.int .i64 (kid 2).n) := f1
 have f2' : (w.alloc (.cells #[.int .i64 13, .int .i64 n, .string s, .slice (some ⟨b, o, none⟩) (4 : Nat) c] 50)).cell? ⟨b, o + 8 + 2, none⟩ = some (.string (kid 2).s) := f2
 have f3' : (w.alloc (.cells #[.int .i64 13, .int .i64 n, .string s, .slice (some ⟨b, o, none⟩) (4 : Nat) c] 50)).cell? ⟨b, o + 8 + 3, none⟩ = some (.slice q2 (kid 2).m d2) := f3
 have p0' : (w.alloc (.cells #[.int .i64 13, .int .i64 n, .string s, .slice (some ⟨b, o, none⟩) (4 : Nat) c] 50)).cell? ⟨b, o + 12, none⟩ = some (.int .i64 (kid 3).k) := p0
 have p1' : (w.alloc (.cells #[.int .i64 13, .int .i64 n, .string s, .slice (some ⟨b, o, none⟩) (4 : Nat) c] 50)).cell? ⟨b, o + 12 + 1, none⟩ = some (.int .i64 (kid 3).n) := p1
 have p2' : (w.alloc (.cells #[.int .i64 13, .int .i64 n, .string s, .slice (some ⟨b, o, none⟩) (4 : Nat) c] 50)).cell? ⟨b, o + 12 + 2, none⟩ = some (.string (kid 3).s) := p2
 have p3' : (w.alloc (.cells #[.int .i64 13, .int .i64 n, .string s, .slice (some ⟨b, o, none⟩) (4 : Nat) c] 50)).cell? ⟨b, o + 12 + 3, none⟩ = some (.slice q3 (kid 3).m d3) := p3
 clear x0 x1 x2 x3 y0 y1 y2 y3 f0 f1 f2 f3 p0 p1 p2 p3
 generalize (kid 0).k = k0 at *
 generalize (kid 0).n = n0 at *
 generalize (kid 0).s = s0 at *
 generalize (kid 0).m = l0 at *
 generalize (kid 1).k = k1 at *
 generalize (kid 1).n = n1 at *
 generalize (kid 1).s = s1 at *
 generalize (kid 1).m = l1 at *
 generalize (kid 2).k = k2 at *
 generalize (kid 2).n = n2 at *
 generalize (kid 2).s = s2 at *
 generalize (kid 2).m = l2 at *
 generalize (kid 3).k = k3 at *
 generalize (kid 3).n = n3 at *
 generalize (kid 3).s = s3 at *
 generalize (kid 3).m = l3 at *
 generalize (kid 0).val l kn vs = v0 at *
 generalize (kid 1).val l kn vs = v1 at *
 generalize (kid 2).val l kn vs = v2 at *
 generalize (kid 3).val l kn vs = v3 at *
 go_enter Tryz.func90, Tryz.ntmps90
 go_wp2_with fail
 obtain ⟨hg, u0, u1, u2, u3⟩ := HX0.out
 clear HX0
 generalize (w.alloc (.cells #[.int .i64 13, .int .i64 n, .string s, .slice (some ⟨b, o, none⟩) (4 : Nat) c] 50)) = W at *
 go_region_held (fun w' => w'.cell? ⟨w.heap.size, 1, none⟩ = some (.int .i64 n) ∧ w'.cell? ⟨w.heap.size, 3, none⟩ = some (.slice (some ⟨b, o, none⟩) (4 : Nat) c) ∧ w'.cell? ⟨b, o, none⟩ = some (.int .i64 k0) ∧ w'.cell? ⟨b, o + 1, none⟩ = some (.int .i64 n0) ∧ w'.cell? ⟨b, o + 2, none⟩ = some (.string s0) ∧ w'.cell? ⟨b, o + 3, none⟩ = some (.slice q0 l0 d0) ∧ w'.cell? ⟨b, o + 4, none⟩ = some (.int .i64 k1) ∧ w'.cell? ⟨b, o + 4 + 1, none⟩ = some (.int .i64 n1) ∧ w'.cell? ⟨b, o + 4 + 2, none⟩ = some (.string s1) ∧ w'.cell? ⟨b, o + 4 + 3, none⟩ = some (.slice q1 l1 d1)) (go_keep)
  (first
   | (have := HX2; go_at_call 99; refine (rHolds_any n z0 z1 _).mono ?_; rintro e w3 ⟨rfl, h3⟩
      subst w3
      have t0 := (HX2.out.cell (p := ⟨w.heap.size, 1, none⟩) (blt_of_cell u1)).trans u1
      have t1 := (HX2.out.cell (p := ⟨w.heap.size, 3, none⟩) (blt_of_cell u3)).trans u3
      have t2 := (HX2.out.cell (p := ⟨b, o, none⟩) (blt_of_cell x0')).trans x0'
      have t3 := (HX2.out.cell (p := ⟨b, o + 1, none⟩) (blt_of_cell x1')).trans x1'
      have t4 := (HX2.out.cell (p := ⟨b, o + 2, none⟩) (blt_of_cell x2')).trans x2'
      have t5 := (HX2.out.cell (p := ⟨b, o + 3, none⟩) (blt_of_cell x3')).trans x3'
      have t6 := (HX2.out.cell (p := ⟨b, o + 4, none⟩) (blt_of_cell y0')).trans y0'
      have t7 := (HX2.out.cell (p := ⟨b, o + 4 + 1, none⟩) (blt_of_cell y1')).trans y1'
      have t8 := (HX2.out.cell (p := ⟨b, o + 4 + 2, none⟩) (blt_of_cell y2')).trans y2'
      have t9 := (HX2.out.cell (p := ⟨b, o + 4 + 3, none⟩) (blt_of_cell y3')).trans y3')
   | (have := HX1; go_at_call_of 46 k1; refine (HI1.out _ HX1.out).mono ?_; rintro e w2 ⟨⟨hz1, rfl⟩ | ⟨z1, hz1, rfl⟩, hb2⟩
      ·exact ⟨rfl, by rw [HZ0.out, hz1]; rfl, HB1.out.trans (hb2.mono HB1.out.size)⟩
      have HB2 := Lib.hid (HB1.out.trans (hb2.mono HB1.out.size))
      have HX2 := Lib.hid (HX1.out.trans (hb2.mono HX1.out.size))
      have HZ1 := Lib.hid hz1
      clear hb2 hz1
      have s0 := (HX2.out.cell (p := ⟨w.heap.size, 1, none⟩) (blt_of_cell u1)).trans u1
      have s1 := (HX2.out.cell (p := ⟨w.heap.size, 3, none⟩) (blt_of_cell u3)).trans u3
      have s2 := (HX2.out.cell (p := ⟨b, o, none⟩) (blt_of_cell x0')).trans x0'
      have s3 := (HX2.out.cell (p := ⟨b, o + 1, none⟩) (blt_of_cell x1')).trans x1'
      have s4 := (HX2.out.cell (p := ⟨b, o + 2, none⟩) (blt_of_cell x2')).trans x2'
      have s5 := (HX2.out.cell (p := ⟨b, o + 3, none⟩) (blt_of_cell x3')).trans x3'
      have s6 := (HX2.out.cell (p := ⟨b, o + 4, none⟩) (blt_of_cell y0')).trans y0'
      have s7 := (HX2.out.cell (p := ⟨b, o + 4 + 1, none⟩) (blt_of_cell y1')).trans y1'
      have s8 := (HX2.out.cell (p := ⟨b, o + 4 + 2, none⟩) (blt_of_cell y2')).trans y2'
      have s9 := (HX2.out.cell (p := ⟨b, o + 4 + 3, none⟩) (blt_of_cell y3')).trans y3')
   | (go_at_call_of 46 k0; refine (HI0.out _ (kbelow_dN (Below.refl _ _) 1)).mono ?_; rintro e w1 ⟨⟨hz0, rfl⟩ | ⟨z0, hz0, rfl⟩, hb1⟩
      ·exact ⟨rfl, by rw [hz0]; rfl, HB0.out.trans ((nfrom_drew hb1).mono HB0.out.size)⟩
      have HB1 := Lib.hid (HB0.out.trans ((nfrom_drew hb1).mono HB0.out.size))
      have HX1 := Lib.hid (nfrom_drew hb1)
      have HZ0 := Lib.hid hz0
      clear hb1 hz0
      have r0 := (HX1.out.cell (p := ⟨w.heap.size, 1, none⟩) (blt_of_cell u1)).trans u1
      have r1 := (HX1.out.cell (p := ⟨w.heap.size, 3, none⟩) (blt_of_cell u3)).trans u3
      have r2 := (HX1.out.cell (p := ⟨b, o, none⟩) (blt_of_cell x0')).trans x0'
      have r3 := (HX1.out.cell (p := ⟨b, o + 1, none⟩) (blt_of_cell x1')).trans x1'
      have r4 := (HX1.out.cell (p := ⟨b, o + 2, none⟩) (blt_of_cell x2')).trans x2'
      have r5 := (HX1.out.cell (p := ⟨b, o + 3, none⟩) (blt_of_cell x3')).trans x3'
      have r6 := (HX1.out.cell (p := ⟨b, o + 4, none⟩) (blt_of_cell y0')).trans y0'
      have r7 := (HX1.out.cell (p := ⟨b, o + 4 + 1, none⟩) (blt_of_cell y1')).trans y1'
      have r8 := (HX1.out.cell (p := ⟨b, o + 4 + 2, none⟩) (blt_of_cell y2')).trans y2'
      have r9 := (HX1.out.cell (p := ⟨b, o + 4 + 3, none⟩) (blt_of_cell y3')).trans y3'))
 cases hh : holdB n z0 z1
 ·
  have hh' : holdB n z0 z1 = false := hh
  have HR : Hid (vEnd (v0.bind fun a => v1.bind fun b => if holdB n a b = true then v2 else v3) = vEnd v3) := Lib.hid (by rw [HZ0.out, HZ1.out]; show vEnd (if holdB n z0 z1 = true then v2 else v3) = _; rw [hh']; rfl)
  have g0 := (HX2.out.cell (p := ⟨b, o + 12, none⟩) (blt_of_cell p0')).trans p0'
  have g1 := (HX2.out.cell (p := ⟨b, o + 12 + 1, none⟩) (blt_of_cell p1')).trans p1'
  have g2 := (HX2.out.cell (p := ⟨b, o + 12 + 2, none⟩) (blt_of_cell p2')).trans p2'
  have g3 := (HX2.out.cell (p := ⟨b, o + 12 + 3, none⟩) (blt_of_cell p3')).trans p3'
  go_wp2_with fail
  refine (HI3.out _ HX2.out).mono ?_
  rintro e w3 ⟨he, hb3⟩
  have HB3 := Lib.hid (HB2.out.trans (hb3.mono HB2.out.size))
  clear hb3
  rcases he with ⟨hz, rfl⟩ | ⟨z, hz, rfl⟩
  ·exact ⟨rfl, by rw [HR.out, hz]; rfl, HB3.out⟩
  ·go_wp2_with fail
   go_ret
   exact ⟨by rw [HR.out, hz]; rfl, HB3.out⟩
 ·
  have hh' : holdB n z0 z1 = true := hh
  have HR : Hid (vEnd (v0.bind fun a => v1.bind fun b => if holdB n a b = true then v2 else v3) = vEnd v2) := Lib.hid (by rw [HZ0.out, HZ1.out]; show vEnd (if holdB n z0 z1 = true then v2 else v3) = _; rw [hh']; rfl)
  have g0 := (HX2.out.cell (p := ⟨b, o + 8, none⟩) (blt_of_cell f0')).trans f0'
  have g1 := (HX2.out.cell (p := ⟨b, o + 8 + 1, none⟩) (blt_of_cell f1')).trans f1'
  have g2 := (HX2.out.cell (p := ⟨b, o + 8 + 2, none⟩) (blt_of_cell f2')).trans f2'
  have g3 := (HX2.out.cell (p := ⟨b, o + 8 + 3, none⟩) (blt_of_cell f3')).trans f3'
  go_wp2_with fail
  refine (HI2.out _ HX2.out).mono ?_
  rintro e w3 ⟨he, hb3⟩
  have HB3 := Lib.hid (HB2.out.trans (hb3.mono HB2.out.size))
  clear hb3
  rcases he with ⟨hz, rfl⟩ | ⟨z, hz, rfl⟩
  ·exact ⟨rfl, by rw [HR.out, hz]; rfl, HB3.out⟩
  ·go_wp2_with fail
   go_ret
   exact ⟨by rw [HR.out, hz]; rfl, HB3.out⟩
set_option maxRecDepth 100000 in
set_option maxHeartbeats 1000000 in
theorem comes_13 (l : List Ln) (kn : Kn) (vs : List Int) (n : Int) (s : ByteArray) (kid : Nat → Ex) (i : ∀ j, j < 4 → ComesIs l kn vs (kid j)) : ComesIs l kn vs (.mk 13 n s 4 kid) := by
 intro a c sb w hsc hk
 show Calls Tryz.prog 46 #[.pointer (some ⟨sb, 0, none⟩), .agg #[.int .i64 13, .int .i64 n, .string s, .slice a (4 : Nat) c]] w _
 have HB0 := Lib.hid (kbelow_box w (.cells #[.int .i64 13, .int .i64 n, .string s, .slice a (4 : Nat) c] 50))
 have HC := Lib.hid (fun w => chosen_any l kn vs n s kid i a c sb w)
 have HS := Lib.hid (hsc.below HB0.out)
 have HK := Lib.hid (hk.below HB0.out)
 clear hsc hk i
 generalize (Ex.mk 13 n s 4 kid).val l kn vs = v at *
 go_enter Tryz.func46, Tryz.ntmps46
 go_wp2_with fail
 refine (HC.out _ HS.out HK.out).mono ?_
 rintro e w1 ⟨he, hb1⟩
 have HB1 := Lib.hid (HB0.out.trans (hb1.mono HB0.out.size))
 clear hb1
 rcases EndIs.of he with ⟨hz, rfl⟩ | ⟨z, hz, rfl⟩
 ·exact ⟨rfl, by rw [hz]; rfl, HB1.out⟩
 ·go_wp2_with fail
  go_ret
  exact ⟨by rw [hz]; rfl, HB1.out⟩
end Go.Proofs.YtmlpedgcpffpnaaGreatDoor
namespace Go.Proofs.YtmlpedgcpffpnaaGreatDoor
open Go.RowKit Go.Maps Go.WideMaps
def ScOk (kn : Kn) (vs : List Int) : Prop := kn.ins.length ≤ 30 ∧ kn.tbs.length ≤ 30 ∧ kn.yrs.length ≤ 30 ∧ (∀ j, j < kn.ins.length → monB (anth kn.ins j).mon = true) ∧ (∀ j, j < kn.tbs.length → tblE (tnth kn.tbs j).name (tnth kn.tbs j).bks = 0) ∧ (∀ j, j < kn.yrs.length → monB (anth kn.yrs j).mon = true) ∧ ∀ j, j < vs.length → monB (vs.getD j 0) = true
def NameOk (l : List Ln) (kn : Kn) (vs : List Int) (s : ByteArray) : Prop := (∀ p, lnsG l s = some p → p < vs.length) ∧ (lnsG l s = none → (insG kn s).isSome = true)
theorem firstE_zero {f : Nat → Int} : ∀ {m : Nat}, firstE f m = 0 → ∀ j, j < m → f j = 0
 | 0, _, j, hj => by omega
 | m + 1, h, j, hj => by
   simp only [firstE] at h
   split at h
   ·rename_i h0
    by_cases e : j = m
    ·subst e; exact h
    ·exact firstE_zero h0 j (by omega)
   ·rename_i h0; exact absurd h h0
theorem allN_each {f : Nat → Bool} : ∀ {m : Nat}, allN f m = true → ∀ j, j < m → f j = true
 | 0, _, j, hj => by omega
 | m + 1, h, j, hj => by
   simp only [allN, Bool.and_eq_true] at h
   by_cases e : j = m
   ·subst e; exact h.2
   ·exact allN_each h.1 j (by omega)
theorem monO_mon {n v : Int} (h : monO n = some v) : monB v = true := by
 unfold monO at h
 split at h
 ·injection h with h; rw [← h]; assumption
 ·cases h
theorem mon_of {n : Int} (h1 : -1000000000000 ≤ n) (h2 : n ≤ 1000000000000) : monB n = true := decide_eq_true ⟨h1, h2⟩
theorem two_mon {k a b v : Int} (ha : monB a = true) (hb : monB b = true) (h : twoO k a b = some v) : monB v = true := by
 have ha' := of_decide_eq_true ha
 have hb' := of_decide_eq_true hb
 unfold twoO at h
 split at h
 ·exact monO_mon h
 ·split at h
  ·exact monO_mon h
  ·split at h
   ·injection h with h; exact mon_of (by omega) (by omega)
   ·injection h with h; exact mon_of (by omega) (by omega)
theorem own_parts {k n : Int} {s : ByteArray} {m : Nat} (h : ownE k n s m = 0) : 1 ≤ k ∧ k ≤ 13 ∧ (m : Int) = kidsOf k ∧ (namedB k = true → NameP s) ∧ leastOf k ≤ n ∧ n ≤ mostOf k := by
 unfold ownE at h
 split at h
 ·cases h
 ·split at h
  ·cases h
  ·split at h
   ·cases h
   ·split at h
    ·cases h
    ·split at h
     ·cases h
     ·rename_i h1 h2 h3 _ h5
      exact ⟨by omega, by omega, by simpa using h2, fun hn => Classical.byContradiction fun hc => h3 ⟨hn, hc⟩, by omega, by omega⟩
theorem nam_mon {l : List Ln} {kn : Kn} {vs : List Int} {s : ByteArray} (hS : ScOk kn vs) (hN : NameOk l kn vs s) : monB (namV l kn vs s) = true := by
 unfold namV
 cases hg : lnsG l s with
 | some p => exact hS.2.2.2.2.2.2 p (hN.1 p hg)
 | none =>
   obtain ⟨q, hq⟩ := Option.isSome_iff_exists.1 (hN.2 hg)
   rw [hq]
   exact hS.2.2.2.1 q (vlast_lt hq)
theorem year_mon {kn : Kn} {vs : List Int} {s : ByteArray} (hS : ScOk kn vs) : monB (yearV kn s) = true := by
 unfold yearV
 cases hg : yrsG kn s with
 | some p => exact hS.2.2.2.2.2.1 p (vlast_lt hg)
 | none => rfl
theorem bind_some {α β : Type} {o : Option α} {f : α → Option β} {v : β} (h : o.bind f = some v) : ∃ z, o = some z ∧ f z = some v := by
 cases o with
 | none => cases h
 | some z => exact ⟨z, rfl, h⟩
theorem val_mon {l : List Ln} {kn : Kn} {vs : List Int} {gv gl : ByteArray → Option Nat} (hS : ScOk kn vs) (hg : ∀ s, (gv s).isSome = true → NameOk l kn vs s) (x : Ex) : x.err = 0 → x.all (knowB gv gl (tabsG kn)) = true → ∀ v, x.val l kn vs = some v → monB v = true := by
 induction x with
 | no => exact fun _ _ _ h => by rw [Ex.val] at h; cases h
 | mk k n s m kid ih =>
   intro he ha
   rw [err_mk] at he
   rw [all_mk] at ha
   by_cases hown : ownE k n s m = 0
   ·rw [if_pos hown] at he
    simp only [Bool.and_eq_true] at ha
    have hkid : ∀ j, j < m → ∀ v, (kid j).val l kn vs = some v → monB v = true := fun j hj => ih j (firstE_zero he j hj) (allN_each ha.2 j hj)
    have hkn := ha.1
    obtain ⟨h1, h13, hm, hnm, hl, hu⟩ := own_parts hown
    clear ih he ha hown
    have hcase : k = 1 ∨ k = 2 ∨ k = 3 ∨ k = 4 ∨ k = 5 ∨ k = 6 ∨ k = 7 ∨ k = 8 ∨ k = 9 ∨ k = 10 ∨ k = 11 ∨ k = 12 ∨ k = 13 := by omega
    clear h1 h13
    rcases hcase with rfl | rfl | rfl | rfl | rfl | rfl | rfl | rfl | rfl | rfl | rfl | rfl | rfl
    ·obtain rfl : m = 0 := by have : kidsOf 1 = 0 := (by decide); omega
     intro v hv
     rw [Ex.val, if_pos rfl] at hv
     injection hv with hv
     have e1 : leastOf 1 = 0 := by decide
     have e2 : mostOf 1 = 1000000000000 := by decide
     exact mon_of (by omega) (by omega)
    ·obtain rfl : m = 0 := by have : kidsOf 2 = 0 := (by decide); omega
     have hN : NameOk l kn vs s := hg s hkn
     intro v hv
     rw [Ex.val, if_neg (by omega), if_pos rfl] at hv
     injection hv with hv
     rw [← hv]
     exact nam_mon hS hN
    ·obtain rfl : m = 0 := by have : kidsOf 3 = 0 := (by decide); omega
     intro v hv
     rw [Ex.val, if_neg (by omega), if_neg (by omega), if_pos rfl] at hv
     injection hv with hv
     rw [← hv]
     exact year_mon hS
    ·obtain rfl : m = 1 := by have : kidsOf 4 = 1 := (by decide); omega
     have e1 : leastOf 4 = 0 := by decide
     have e2 : mostOf 4 = 1000000 := by decide
     have hr : ratB n = true := decide_eq_true (by omega)
     have m0 := hkid 0 (by omega)
     intro v hv
     rw [val_one (by decide)] at hv
     obtain ⟨z, _, hv⟩ := bind_some hv
     exact monO_mon (n := rd (z * n) 10000 5) hv
    ·obtain rfl : m = 1 := by have : kidsOf 5 = 1 := (by decide); omega
     have hs : s.size ≤ maxLen := by have := (hnm (by decide)).2.1; unfold maxLen; omega
     obtain ⟨q, hq⟩ := Option.isSome_iff_exists.1 (show (tbsG kn s).isSome = true from hkn)
     have ht := hS.2.2.2.2.1 q (vlast_lt hq)
     have m0 := hkid 0 (by omega)
     intro v hv
     rw [val_one (by decide)] at hv
     obtain ⟨z, hz, hv⟩ := bind_some hv
     rw [oneO_5, hq] at hv
     injection hv with hv
     have hl := tax_le (tblE_ok ht).2 z
     have hz' := of_decide_eq_true (m0 z hz)
     rw [← hv]
     exact mon_of (by simp only [Option.getD_some]; omega) (by simp only [Option.getD_some]; omega)
    ·obtain rfl : m = 1 := by have : kidsOf 6 = 1 := (by decide); omega
     have m0 := hkid 0 (by omega)
     intro v hv
     rw [val_one (by decide)] at hv
     obtain ⟨z, hz, hv⟩ := bind_some hv
     have hz' := of_decide_eq_true (m0 z hz)
     have hv' : some (-z) = some v := hv
     injection hv' with hv'
     exact mon_of (by omega) (by omega)
    ·obtain rfl : m = 2 := by have : kidsOf 7 = 2 := (by decide); omega
     have m0 := hkid 0 (by omega)
     have m1 := hkid 1 (by omega)
     intro v hv
     rw [val_two (by decide)] at hv
     obtain ⟨a, ha, hv⟩ := bind_some hv
     obtain ⟨b, hb, hv⟩ := bind_some hv
     exact two_mon (m0 a ha) (m1 b hb) hv
    ·obtain rfl : m = 2 := by have : kidsOf 8 = 2 := (by decide); omega
     have m0 := hkid 0 (by omega)
     have m1 := hkid 1 (by omega)
     intro v hv
     rw [val_two (by decide)] at hv
     obtain ⟨a, ha, hv⟩ := bind_some hv
     obtain ⟨b, hb, hv⟩ := bind_some hv
     exact two_mon (m0 a ha) (m1 b hb) hv
    ·obtain rfl : m = 1 := by have : kidsOf 9 = 1 := (by decide); omega
     have e1 : leastOf 9 = 1 := by decide
     have e2 : mostOf 9 = 1000000 := by decide
     have m0 := hkid 0 (by omega)
     intro v hv
     rw [val_one (by decide)] at hv
     obtain ⟨z, _, hv⟩ := bind_some hv
     exact monO_mon (n := z * n) hv
    ·obtain rfl : m = 1 := by have : kidsOf 10 = 1 := (by decide); omega
     have e1 : leastOf 10 = 1 := by decide
     have e2 : mostOf 10 = 1000000 := by decide
     have m0 := hkid 0 (by omega)
     intro v hv
     rw [val_one (by decide)] at hv
     obtain ⟨z, _, hv⟩ := bind_some hv
     exact monO_mon (n := rd z n 5) hv
    ·obtain rfl : m = 2 := by have : kidsOf 11 = 2 := (by decide); omega
     have m0 := hkid 0 (by omega)
     have m1 := hkid 1 (by omega)
     intro v hv
     rw [val_two (by decide)] at hv
     obtain ⟨a, ha, hv⟩ := bind_some hv
     obtain ⟨b, hb, hv⟩ := bind_some hv
     exact two_mon (m0 a ha) (m1 b hb) hv
    ·obtain rfl : m = 2 := by have : kidsOf 12 = 2 := (by decide); omega
     have m0 := hkid 0 (by omega)
     have m1 := hkid 1 (by omega)
     intro v hv
     rw [val_two (by decide)] at hv
     obtain ⟨a, ha, hv⟩ := bind_some hv
     obtain ⟨b, hb, hv⟩ := bind_some hv
     exact two_mon (m0 a ha) (m1 b hb) hv
    ·obtain rfl : m = 4 := by have : kidsOf 13 = 4 := (by decide); omega
     intro v hv
     rw [val_if] at hv
     obtain ⟨a, _, hv⟩ := bind_some hv
     obtain ⟨b, _, hv⟩ := bind_some hv
     split at hv
     ·exact hkid 2 (by omega) v hv
     ·exact hkid 3 (by omega) v hv
   ·rw [if_neg hown] at he
    exact absurd he hown
theorem comes_walk {l : List Ln} {kn : Kn} {vs : List Int} {gv gl : ByteArray → Option Nat} (hS : ScOk kn vs) (hg : ∀ s, (gv s).isSome = true → NameOk l kn vs s) (x : Ex) : x.err = 0 → x.all (knowB gv gl (tabsG kn)) = true → ComesIs l kn vs x := by
 induction x with
 | no => exact fun _ _ _ _ _ _ _ h => h.elim
 | mk k n s m kid ih =>
   intro he ha
   rw [err_mk] at he
   rw [all_mk] at ha
   by_cases hown : ownE k n s m = 0
   ·rw [if_pos hown] at he
    simp only [Bool.and_eq_true] at ha
    have hkid : ∀ j, j < m → ComesIs l kn vs (kid j) ∧ ∀ v, (kid j).val l kn vs = some v → monB v = true := fun j hj => ⟨ih j (firstE_zero he j hj) (allN_each ha.2 j hj), val_mon hS hg (kid j) (firstE_zero he j hj) (allN_each ha.2 j hj)⟩
    have hkn := ha.1
    obtain ⟨h1, h13, hm, hnm, hl, hu⟩ := own_parts hown
    clear ih he ha hown
    have hcase : k = 1 ∨ k = 2 ∨ k = 3 ∨ k = 4 ∨ k = 5 ∨ k = 6 ∨ k = 7 ∨ k = 8 ∨ k = 9 ∨ k = 10 ∨ k = 11 ∨ k = 12 ∨ k = 13 := by omega
    clear h1 h13
    rcases hcase with rfl | rfl | rfl | rfl | rfl | rfl | rfl | rfl | rfl | rfl | rfl | rfl | rfl
    ·obtain rfl : m = 0 := by have : kidsOf 1 = 0 := (by decide); omega
     exact comes_1 l kn vs n s kid
    ·obtain rfl : m = 0 := by have : kidsOf 2 = 0 := (by decide); omega
     have hN : NameOk l kn vs s := hg s hkn
     exact comes_2 l kn vs n s kid hS.1 hN.1 hN.2
    ·obtain rfl : m = 0 := by have : kidsOf 3 = 0 := (by decide); omega
     exact comes_3 l kn vs n s kid hS.2.2.1
    ·obtain rfl : m = 1 := by have : kidsOf 4 = 1 := (by decide); omega
     have e1 : leastOf 4 = 0 := by decide
     have e2 : mostOf 4 = 1000000 := by decide
     have hr : ratB n = true := decide_eq_true (by omega)
     obtain ⟨i0, m0⟩ := hkid 0 (by omega)
     exact comes_one l kn vs 4 n s kid (by decide) i0 m0 (fun a m c sb w z _ hz => (ofOne_4 n s a m c z sb kn w hz hr).mono fun _ _ h => ⟨.of h.1, h.2⟩)
    ·obtain rfl : m = 1 := by have : kidsOf 5 = 1 := (by decide); omega
     have hs : s.size ≤ maxLen := by have := (hnm (by decide)).2.1; unfold maxLen; omega
     obtain ⟨q, hq⟩ := Option.isSome_iff_exists.1 (show (tbsG kn s).isSome = true from hkn)
     have ht := hS.2.2.2.2.1 q (vlast_lt hq)
     obtain ⟨i0, m0⟩ := hkid 0 (by omega)
     exact comes_one l kn vs 5 n s kid (by decide) i0 m0 (fun a m c sb w z hsc hz => (ofOne_5 n s a m c z sb l kn vs q w hs hsc hS.2.1 hq ht hz).mono fun _ _ h => ⟨.of h.1, h.2⟩)
    ·obtain rfl : m = 1 := by have : kidsOf 6 = 1 := (by decide); omega
     obtain ⟨i0, m0⟩ := hkid 0 (by omega)
     exact comes_one l kn vs 6 n s kid (by decide) i0 m0 (fun a m c sb w z _ hz => (ofOne_6 n s a m c z sb kn w hz).mono fun _ _ h => ⟨.of h.1, h.2⟩)
    ·obtain rfl : m = 2 := by have : kidsOf 7 = 2 := (by decide); omega
     obtain ⟨i0, m0⟩ := hkid 0 (by omega)
     obtain ⟨i1, m1⟩ := hkid 1 (by omega)
     exact comes_7 l kn vs n s kid i0 i1 m0 m1
    ·obtain rfl : m = 2 := by have : kidsOf 8 = 2 := (by decide); omega
     obtain ⟨i0, m0⟩ := hkid 0 (by omega)
     obtain ⟨i1, m1⟩ := hkid 1 (by omega)
     exact comes_8 l kn vs n s kid i0 i1 m0 m1
    ·obtain rfl : m = 1 := by have : kidsOf 9 = 1 := (by decide); omega
     have e1 : leastOf 9 = 1 := by decide
     have e2 : mostOf 9 = 1000000 := by decide
     obtain ⟨i0, m0⟩ := hkid 0 (by omega)
     exact comes_one l kn vs 9 n s kid (by decide) i0 m0 (fun a m c sb w z _ hz => (ofOne_9 n s a m c z sb kn w hz (by omega) (by omega)).mono fun _ _ h => ⟨.of h.1, h.2⟩)
    ·obtain rfl : m = 1 := by have : kidsOf 10 = 1 := (by decide); omega
     have e1 : leastOf 10 = 1 := by decide
     have e2 : mostOf 10 = 1000000 := by decide
     obtain ⟨i0, m0⟩ := hkid 0 (by omega)
     exact comes_one l kn vs 10 n s kid (by decide) i0 m0 (fun a m c sb w z _ hz => (ofOne_10 n s a m c z sb kn w hz (by omega) (by omega)).mono fun _ _ h => ⟨.of h.1, h.2⟩)
    ·obtain rfl : m = 2 := by have : kidsOf 11 = 2 := (by decide); omega
     obtain ⟨i0, m0⟩ := hkid 0 (by omega)
     obtain ⟨i1, m1⟩ := hkid 1 (by omega)
     exact comes_11 l kn vs n s kid i0 i1 m0 m1
    ·obtain rfl : m = 2 := by have : kidsOf 12 = 2 := (by decide); omega
     obtain ⟨i0, m0⟩ := hkid 0 (by omega)
     obtain ⟨i1, m1⟩ := hkid 1 (by omega)
     exact comes_12 l kn vs n s kid i0 i1 m0 m1
    ·obtain rfl : m = 4 := by have : kidsOf 13 = 4 := (by decide); omega
     exact comes_13 l kn vs n s kid (fun j hj => (hkid j hj).1)
   ·rw [if_neg hown] at he
    exact absurd he hown
theorem comes_any {l : List Ln} {kn : Kn} {vs : List Int} {gv gl : ByteArray → Option Nat} (hS : ScOk kn vs) (hg : ∀ s, (gv s).isSome = true → NameOk l kn vs s) (x : Ex) (he : x.err = 0) (ha : x.all (knowB gv gl (tabsG kn)) = true) : ComesIs l kn vs x ∧ ∀ v, x.val l kn vs = some v → monB v = true := ⟨comes_walk hS hg x he ha, val_mon hS hg x he ha⟩
end Go.Proofs.YtmlpedgcpffpnaaGreatDoor
namespace Go.Proofs.YtmlpedgcpffpnaaGreatDoor
open Go.RowKit
theorem vlast_is {f : Nat → ByteArray} : ∀ {n : Nat} {s : ByteArray} {p : Nat}, lastN f n s = some p → (f p).data = s.data
 | 0, _, _, h => by cases h
 | n + 1, s, p, h => by
   simp only [lastN] at h
   split at h
   ·rename_i e; injection h with h; rw [← h]; exact e
   ·exact vlast_is h
theorem vlast_has {f : Nat → ByteArray} : ∀ {n : Nat} {s : ByteArray} {j : Nat}, j < n → (f j).data = s.data → (lastN f n s).isSome = true
 | 0, _, _, h, _ => by omega
 | n + 1, s, j, h, e => by
   simp only [lastN]
   split
   ·rfl
   ·by_cases ej : j = n
    ·subst ej; contradiction
    ·exact vlast_has (by omega) e
theorem vlast_same {f : Nat → ByteArray} {s t : ByteArray} (e : s.data = t.data) : ∀ {n : Nat}, lastN f n s = lastN f n t
 | 0 => rfl
 | n + 1 => by simp only [lastN, e, vlast_same e (n := n)]
theorem line_new {l : List Ln} {kn : Kn} {q : Nat} (h : lineOk l kn q = 0) : (valsK l kn q (lnth l q).name).isSome = false := by
 unfold lineOk at h
 split at h
 ·cases h
 ·rename_i h1; simpa using h1
theorem vals_line {l : List Ln} {kn : Kn} {j : Nat} {s : ByteArray} (h : (lastN (fun j => (lnth l j).name) j s).isSome = true) : (valsK l kn j s).isSome = true := by
 unfold valsK
 cases hg : lastN (fun j => (lnth l j).name) j s with
 | none => rw [hg] at h; cases h
 | some p => rfl
theorem vals_ins {l : List Ln} {kn : Kn} {j : Nat} {s : ByteArray} (h : (insG kn s).isSome = true) : (valsK l kn j s).isSome = true := by
 unfold valsK
 cases hg : lastN (fun j => (lnth l j).name) j s with
 | none => exact h
 | some p => rfl
theorem name_ok {l : List Ln} {kn : Kn} {vs : List Int} (hok : ∀ q, q < l.length → lineOk l kn q = 0) (hj : vs.length < l.length) {s : ByteArray} (h : (valsK l kn vs.length s).isSome = true) : NameOk l kn vs s := by
 cases hg : lastN (fun j => (lnth l j).name) vs.length s with
 | some p' =>
   have hp' := vlast_lt hg
   have he' := vlast_is hg
   refine ⟨fun p hp => ?_, fun hn => ?_⟩
   ·have hpl := vlast_lt hp
    have he := vlast_is hp
    refine Classical.byContradiction fun hc => ?_
    have h1 := line_new (hok p hpl)
    rw [vals_line (vlast_has (j := p') (by omega) (he'.trans he.symm))] at h1
    cases h1
   ·have := vlast_has (f := fun j => (lnth l j).name) (n := l.length) (s := s) (j := p') (by omega) he'
    rw [show lastN (fun j => (lnth l j).name) l.length s = none from hn] at this
    cases this
 | none =>
   have hi : (insG kn s).isSome = true := by
    unfold valsK at h
    rw [hg] at h
    exact h
   refine ⟨fun p hp => ?_, fun _ => hi⟩
   have hpl := vlast_lt hp
   have he := vlast_is hp
   have h1 := line_new (hok p hpl)
   rw [vals_ins (by unfold insG at hi ⊢; rw [vlast_same he]; exact hi)] at h1
   cases h1
theorem line_knows {l : List Ln} {kn : Kn} {q : Nat} (h : lineOk l kn q = 0) : (lnth l q).ex.all (knowB (valsK l kn q) (linesG l) (tabsG kn)) = true := by
 unfold lineOk at h
 split at h
 ·cases h
 ·split at h
  ·assumption
  ·cases h
theorem lines_err {l : List Ln} (h : linesE l = 0) {j : Nat} (hj : j < l.length) : (lnth l j).ex.err = 0 := by
 unfold linesE at h
 split at h
 ·cases h
 ·have h1 := firstE_zero h j hj
  simp only [lineE] at h1
  split at h1
  ·cases h1
  ·split at h1
   ·exact h1
   ·cases h1
theorem line_comes {l : List Ln} {kn : Kn} {vs : List Int} (hE : linesE l = 0) (hok : ∀ q, q < l.length → lineOk l kn q = 0) (hS : ScOk kn vs) (hj : vs.length < l.length) : ComesIs l kn vs (lnth l vs.length).ex ∧ ∀ v, (lnth l vs.length).ex.val l kn vs = some v → monB v = true :=
 comes_any (gv := valsK l kn vs.length) (gl := linesG l) hS (fun _ h => name_ok hok hj h) _ (lines_err hE hj) (line_knows (hok _ hj))
theorem ams_mon {l : List Am} (h : amsE l = 0) {j : Nat} (hj : j < l.length) : monB (anth l j).mon = true := by
 unfold amsE at h
 split at h
 ·cases h
 ·split at h
  ·cases h
  ·rename_i h2
   exact all_nth (P := amB) (by simpa [amsB] using h2) hj
theorem kn_ok {kn : Kn} (h : knE kn = 0) : ScOk kn [] := by
 obtain ⟨h1, h2, h3⟩ := knE_30 h
 unfold knE at h
 split at h
 ·cases h
 ·split at h
  ·rename_i hi
   split at h
   ·rename_i hy
    refine ⟨h1, h2, h3, fun j hj => ams_mon hi hj, fun j hj => ?_, fun j hj => ams_mon hy hj, fun j hj => by simp at hj⟩
    unfold tbsE at h
    split at h
    ·rename_i ht
     exact firstE_zero ht j hj
    ·rename_i ht; exact absurd h ht
   ·rename_i hy; exact absurd h hy
  ·rename_i hi; exact absurd h hi
theorem ScOk.more {kn : Kn} {vs : List Int} (h : ScOk kn vs) {v : Int} (hv : monB v = true) : ScOk kn (vs ++ [v]) := by
 refine ⟨h.1, h.2.1, h.2.2.1, h.2.2.2.1, h.2.2.2.2.1, h.2.2.2.2.2.1, fun j hj => ?_⟩
 by_cases e : j < vs.length
 ·have := h.2.2.2.2.2.2 j e
  rwa [List.getD_eq_getElem?_getD, List.getElem?_append_left e, ← List.getD_eq_getElem?_getD]
 ·obtain rfl : j = vs.length := by simp at hj; omega
  simpa [List.getD_eq_getElem?_getD] using hv
def linesV (l : List Ln) (kn : Kn) : Nat → List Int × Bool
 | 0 => ([], true)
 | j + 1 => match linesV l kn j with
   | (vs, false) => (vs, false)
   | (vs, true) => match (lnth l j).ex.val l kn vs with
     | some v => (vs ++ [v], true)
     | none => (vs, false)
end Go.Proofs.YtmlpedgcpffpnaaGreatDoor
