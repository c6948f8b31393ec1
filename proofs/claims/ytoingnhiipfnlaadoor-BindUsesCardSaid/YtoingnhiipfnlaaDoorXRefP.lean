/-
  Promise F2: the walks of the reference's Parts and Depth, over whatever expression.
-/
import Derived.Test.YtoingnhiipfnlaaDoorXLeft
namespace Go.Proofs.YtoingnhiipfnlaaDoor
open Go.RowKit

/-- Parts up to a bound: what the reference counts of Kids. -/
def cutN (n q : Nat) : Nat := min n (q + 1)
/-- An expression in its box. -/
def XBox (w : World) (b : Nat) (k n : Int) (s : ByteArray) (a : Option Addr) (m c : Nat) : Prop := b < w.heap.size ∧ w.cell? ⟨b, 0, none⟩ = some (.int .i64 k) ∧ w.cell? ⟨b, 1, none⟩ = some (.int .i64 n) ∧ w.cell? ⟨b, 2, none⟩ = some (.string s) ∧ w.cell? ⟨b, 3, none⟩ = some (.slice a m c)
theorem XBox.made (w : World) (k n : Int) (s : ByteArray) (a : Option Addr) (m c : Nat) (T : TypeId) : XBox (w.alloc (.cells #[.int .i64 k, .int .i64 n, .string s, .slice a m c] T)) w.heap.size k n s a m c := by
  refine ⟨?_, ?_, ?_, ?_, ?_⟩ <;> simp
theorem XBox.below {w w' : World} {b : Nat} {k n : Int} {s : ByteArray} {a : Option Addr} {m c : Nat} (h : XBox w b k n s a m c) (hb : Below w.heap.size w w') : XBox w' b k n s a m c :=
  ⟨Nat.lt_of_lt_of_le h.1 hb.size, (hb.cell (p := ⟨b, 0, none⟩) h.1).trans h.2.1, (hb.cell (p := ⟨b, 1, none⟩) h.1).trans h.2.2.1, (hb.cell (p := ⟨b, 2, none⟩) h.1).trans h.2.2.2.1, (hb.cell (p := ⟨b, 3, none⟩) h.1).trans h.2.2.2.2⟩
theorem parts_mk (k n : Int) (s : ByteArray) (m : Nat) (kid : Nat → Ex) : (Ex.mk k n s m kid).parts = 1 + sumN (fun j => (kid j).parts) m := by rw [Ex.parts]
theorem depth_mk (k n : Int) (s : ByteArray) (m : Nat) (kid : Nat → Ex) : (Ex.mk k n s m kid).depth = 1 + maxN (fun j => (kid j).depth) m := by rw [Ex.depth]
set_option maxRecDepth 100000 in
set_option maxHeartbeats 2000000 in
theorem parts_ref (x : Ex) : ∀ (a : Option Addr) (c q : Nat) (w : World), q ≤ 4000 → KidsAt w x a →
    Calls Tryd.prog 37 #[.agg #[.int .i64 x.k, .int .i64 x.n, .string x.s, .slice a x.m c], .int .i64 q] w fun e w' => e = .returned (.int .i64 ((cutN x.parts q : Nat) : Int)) ∧ Below w.heap.size w w' := by
  induction x with
  | no => intro a c q w _ h; exact h.elim
  | mk k n s m kid ih =>
    intro a c q w hq hk
    show Calls Tryd.prog 37 #[.agg #[.int .i64 k, .int .i64 n, .string s, .slice a m c], .int .i64 q] w _
    have hm : m ≤ 9223372036854775807 := by have := hk.many; unfold maxLen at this; exact this
    have HK := Lib.hid hk
    have HB0 := Lib.hid (kbelow_box w (.cells #[.int .i64 k, .int .i64 n, .string s, .slice a m c] 50))
    have HX0 := Lib.hid (XBox.made w k n s a m c 50)
    have HM := Lib.hid (parts_mk k n s m kid)
    have HIH := Lib.hid ih
    clear hk ih
    generalize (Ex.mk k n s m kid).parts = z at *
    go_enter Tryd.func37, Tryd.ntmps37
    go_wp2_with fail
    generalize (w.alloc (.cells #[.int .i64 k, .int .i64 n, .string s, .slice a m c] 50)) = W at *
    go_loopw [5, 6] (fun nv i wr => ∃ (j r : Nat), j ≤ m ∧ i = .int .i64 j ∧ nv = .int .i64 r ∧ r = cutN (1 + sumN (fun j => (kid j).parts) j) q ∧ Below W.heap.size W wr) (fun _ i _ => m - (intOf i).toNat)
    case atStart => exact ⟨0, 1, Nat.zero_le _, rfl, rfl, by simp [cutN, sumN], Below.refl _ _⟩
    case round =>
      obtain ⟨j, r, hj, rfl, rfl, hr, hb⟩ := hrel
      have HR := Lib.hid hr
      have HB := Lib.hid hb
      have HBW := Lib.hid (HB0.out.trans (hb.mono HB0.out.size))
      obtain ⟨_, y0, y1, y2, y3⟩ := HX0.out.below hb
      have hrq : r ≤ q + 1 := by rw [hr]; unfold cutN; omega
      clear hr hb
      by_cases hlt : j < m
      · have hlt' : (j : Int) < (m : Int) := by omega
        by_cases hle : r ≤ q
        · have hle' : (r : Int) ≤ (q : Int) := by omega
          obtain ⟨b, off, rfl, hcell⟩ := HK.out.open (show 0 < m by omega)
          obtain ⟨aj, cj, ⟨x0, x1, x2, x3⟩, hkj⟩ := hcell wr HBW.out j hlt
          have HKJ := Lib.hid hkj
          clear hcell hkj
          have x0' : wr.cell? ⟨b, off + j * 4, none⟩ = some (.int .i64 (kid j).k) := x0
          have x1' : wr.cell? ⟨b, off + j * 4 + 1, none⟩ = some (.int .i64 (kid j).n) := x1
          have x2' : wr.cell? ⟨b, off + j * 4 + 2, none⟩ = some (.string (kid j).s) := x2
          have x3' : wr.cell? ⟨b, off + j * 4 + 3, none⟩ = some (.slice aj (kid j).m cj) := x3
          clear x0 x1 x2 x3
          go_wp2_with fail
          rw [show (q : Int) - (r : Int) = ((q - r : Nat) : Int) by omega]
          refine (HIH.out j aj cj (q - r) _ (by omega) HKJ.out).mono ?_
          rintro e w1 ⟨rfl, hb1⟩
          have HB1 := Lib.hid (HB.out.trans (hb1.mono HB.out.size))
          have HN : Hid (r + cutN (kid j).parts (q - r) = cutN (1 + sumN (fun j => (kid j).parts) (j + 1)) q) := by
            have h := HR.out
            have e2 : sumN (fun j => (kid j).parts) (j + 1) = sumN (fun j => (kid j).parts) j + (kid j).parts := rfl
            unfold Hid
            unfold cutN at *
            omega
          have hcq : cutN (kid j).parts (q - r) ≤ q - r + 1 := by unfold cutN; omega
          clear hb1 x0' x1' x2' x3' y0 y1 y2 y3
          generalize cutN (kid j).parts (q - r) = u at *
          go_wp2_with fail
          go_roundw
          case rel => exact ⟨j + 1, r + u, by omega, by go_num, by go_num, HN.out, HB1.out⟩
          case measure => simp [intOf]; omega
        · have hleB : decide ((r : Int) ≤ (q : Int)) = false := decide_eq_false (by omega)
          have HZ : Hid (cutN z q = r) := by
            have h := HR.out
            have h2 := sumN_le (f := fun j => (kid j).parts) hj
            have h3 := HM.out
            unfold Hid
            unfold cutN at *
            omega
          go_wp2_with fail
          go_ret
          exact ⟨kret_int (by rw [HZ.out]), HBW.out⟩
      · have hltB : decide ((j : Int) < (m : Int)) = false := decide_eq_false (by omega)
        have HZ : Hid (cutN z q = r) := by
          have h := HR.out
          have hjm : j = m := by omega
          subst hjm
          have h3 := HM.out
          unfold Hid
          unfold cutN at *
          omega
        go_wp2_with fail
        go_ret
        exact ⟨kret_int (by rw [HZ.out]), HBW.out⟩
set_option maxRecDepth 100000 in
set_option maxHeartbeats 2000000 in
theorem depth_ref (x : Ex) : ∀ (a : Option Addr) (c q : Nat) (w : World), q ≤ 20 → KidsAt w x a →
    Calls Tryd.prog 38 #[.agg #[.int .i64 x.k, .int .i64 x.n, .string x.s, .slice a x.m c], .int .i64 q] w fun e w' => e = .returned (.int .i64 ((cutN x.depth q : Nat) : Int)) ∧ Below w.heap.size w w' := by
  induction x with
  | no => intro a c q w _ h; exact h.elim
  | mk k n s m kid ih =>
    intro a c q w hq hk
    show Calls Tryd.prog 38 #[.agg #[.int .i64 k, .int .i64 n, .string s, .slice a m c], .int .i64 q] w _
    have hm : m ≤ 9223372036854775807 := by have := hk.many; unfold maxLen at this; exact this
    have HK := Lib.hid hk
    have HB0 := Lib.hid (kbelow_box w (.cells #[.int .i64 k, .int .i64 n, .string s, .slice a m c] 50))
    have HX0 := Lib.hid (XBox.made w k n s a m c 50)
    have HM := Lib.hid (depth_mk k n s m kid)
    have HP := Lib.hid (Ex.depth_pos (Ex.mk k n s m kid))
    have HIH := Lib.hid ih
    clear hk ih
    generalize (Ex.mk k n s m kid).depth = z at *
    by_cases hq0 : q = 0
    · have HZ : Hid (cutN z q = 1) := by have := HP.out; unfold Hid cutN; omega
      subst hq0
      go_enter Tryd.func38, Tryd.ntmps38
      go_wp2_with fail
      go_ret
      exact ⟨kret_int (by rw [HZ.out]; rfl), HB0.out⟩
    · have hqB : decide ((q : Int) = 0) = false := decide_eq_false (by omega)
      have hqE : ((q : Int) == 0) = false := by simp; omega
      go_enter Tryd.func38, Tryd.ntmps38
      go_wp2_with fail
      generalize (w.alloc (.cells #[.int .i64 k, .int .i64 n, .string s, .slice a m c] 50)) = W at *
      go_loopw [5, 6] (fun dv i wr => ∃ (j r : Nat), j ≤ m ∧ i = .int .i64 j ∧ dv = .int .i64 r ∧ r = min (maxN (fun j => (kid j).depth) j) q ∧ Below W.heap.size W wr) (fun _ i _ => m - (intOf i).toNat)
      case atStart => exact ⟨0, 0, Nat.zero_le _, rfl, rfl, by simp [maxN], Below.refl _ _⟩
      case round =>
        obtain ⟨j, r, hj, rfl, rfl, hr, hb⟩ := hrel
        have HR := Lib.hid hr
        have HB := Lib.hid hb
        have HBW := Lib.hid (HB0.out.trans (hb.mono HB0.out.size))
        obtain ⟨_, y0, y1, y2, y3⟩ := HX0.out.below hb
        have hrq : r ≤ q := by rw [hr]; omega
        clear hr hb
        by_cases hlt : j < m
        · have hlt' : (j : Int) < (m : Int) := by omega
          obtain ⟨b, off, rfl, hcell⟩ := HK.out.open (show 0 < m by omega)
          obtain ⟨aj, cj, ⟨x0, x1, x2, x3⟩, hkj⟩ := hcell wr HBW.out j hlt
          have HKJ := Lib.hid hkj
          clear hcell hkj
          have x0' : wr.cell? ⟨b, off + j * 4, none⟩ = some (.int .i64 (kid j).k) := x0
          have x1' : wr.cell? ⟨b, off + j * 4 + 1, none⟩ = some (.int .i64 (kid j).n) := x1
          have x2' : wr.cell? ⟨b, off + j * 4 + 2, none⟩ = some (.string (kid j).s) := x2
          have x3' : wr.cell? ⟨b, off + j * 4 + 3, none⟩ = some (.slice aj (kid j).m cj) := x3
          clear x0 x1 x2 x3
          go_wp2_with fail
          rw [show (q : Int) - 1 = ((q - 1 : Nat) : Int) by omega]
          refine (HIH.out j aj cj (q - 1) _ (by omega) HKJ.out).mono ?_
          rintro e w1 ⟨rfl, hb1⟩
          have HB1 := Lib.hid (HB.out.trans (hb1.mono HB.out.size))
          have HN : Hid (max r (cutN (kid j).depth (q - 1)) = min (maxN (fun j => (kid j).depth) (j + 1)) q) := by
            have h := HR.out
            have e2 : maxN (fun j => (kid j).depth) (j + 1) = max (maxN (fun j => (kid j).depth) j) (kid j).depth := rfl
            unfold Hid
            unfold cutN at *
            omega
          have hcq : cutN (kid j).depth (q - 1) ≤ q := by unfold cutN; omega
          clear hb1 x0' x1' x2' x3' y0 y1 y2 y3
          generalize cutN (kid j).depth (q - 1) = u at *
          by_cases hgt : r < u
          · have hgt' : (r : Int) < (u : Int) := by omega
            have HN2 : Hid (u = min (maxN (fun j => (kid j).depth) (j + 1)) q) := by have := HN.out; unfold Hid; omega
            go_wp2_with fail
            go_roundw
            case rel => exact ⟨j + 1, u, by omega, by go_num, rfl, HN2.out, HB1.out⟩
            case measure => simp [intOf]; omega
          · have hgtB : decide ((r : Int) < (u : Int)) = false := decide_eq_false (by omega)
            have HN2 : Hid (r = min (maxN (fun j => (kid j).depth) (j + 1)) q) := by have := HN.out; unfold Hid; omega
            go_wp2_with fail
            go_roundw
            case rel => exact ⟨j + 1, r, by omega, by go_num, rfl, HN2.out, HB1.out⟩
            case measure => simp [intOf]; omega
        · have hltB : decide ((j : Int) < (m : Int)) = false := decide_eq_false (by omega)
          have HZ : Hid (((cutN z q : Nat) : Int) = (r : Int) + 1) := by
            have h := HR.out
            have hjm : j = m := by omega
            subst hjm
            have h3 := HM.out
            unfold Hid
            unfold cutN at *
            omega
          go_wp2_with fail
          go_ret
          exact ⟨kret_int HZ.out.symm, HBW.out⟩
end Go.Proofs.YtoingnhiipfnlaaDoor
