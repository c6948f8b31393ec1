/-
  The reference's TakeAll: its walk, where gross is above keep.
-/
import Derived.Test.YtciblhkcchaobaaARefP
namespace Go.Proofs.Ytciblhkcchaobaa
open Go.RowKit

set_option maxRecDepth 100000 in
set_option maxHeartbeats 2000000 in
theorem takeAll_ref1 (g k : Int) (a : Option Addr) (n cap : Nat) (l : List Cl) (w : World) (hc : CameC w a l) (hn : l.length = n) (hE : claimE g k l = 0) (hkg : k < g) :
    Calls Try.prog 14 #[.int .i64 g, .int .i64 k, .slice a n cap] w fun e w' => ∃ x c, e = .returned (.tuple #[.slice x n c, .int .i64 (min g k + lft g k l n)]) ∧ TkAt w' x n (takenL g k l n) ∧ Below w.heap.size w w' := by
  obtain ⟨z1, ⟨g0, g1⟩, ⟨k0, k1⟩, z4⟩ := claimE_zero hE
  have HF := Lib.hid (fine_of hE)
  have HQ := Lib.hid z4
  have hn30 : n ≤ 30 := by rw [← hn]; exact z1
  have HO := Lib.hid (fun h0 => hc.open hn h0)
  have HN := Lib.hid hn
  have HL0 : Hid (lft g k l 0 = g - min g k) := rfl
  clear z1 z4 hE hc hn
  have hmin : min g k = k := by omega
  have HMN := Lib.hid hmin
  clear hmin
  have HALV : Hid (g - k = lft g k l 0) := by unfold Hid; rw [HL0.out, HMN.out]
  go_enter Try.func14, Try.ntmps14
  go_wp2_with fail
  obtain ⟨AL, hALV⟩ : ∃ AL, AL = g - k := ⟨_, rfl⟩
  have HAL : Hid (lft g k l 0 = AL) := by unfold Hid; rw [HL0.out, HMN.out, hALV]
  rw [← hALV]
  have hAL0 : 0 ≤ AL ∧ AL ≤ g := by omega
  clear hALV HALV
  go_loopw [9, 10, 11, 12] (fun ov av nv iv wr => ∃ (j : Nat) (A L N : Int), j ≤ n ∧ iv = .int .i64 j ∧ av = .int .i64 A ∧ nv = .int .i64 N ∧ Hid (asked l j = A ∧ lft g k l j = L ∧ N = g - ((AL) - L)) ∧ GrowF wr w.heap.size ov j (takenL g k l j) ∧ Below w.heap.size w wr) (fun _ _ _ iv _ => n - (intOf iv).toNat)
  case atStart => exact ⟨0, 0, AL, g, Nat.zero_le _, rfl, rfl, rfl, ⟨rfl, HAL.out, by omega⟩, GrowF.nil _ _, Below.refl _ _⟩
  case round =>
    obtain ⟨j, A, L, N, hj, rfl, rfl, rfl, HAL2, hgr, hb⟩ := hrel
    have HG := Lib.hid hgr
    have HB := Lib.hid hb
    obtain ⟨x9, c9, hpv⟩ := hgr.slice
    subst hpv
    clear hgr hb
    have hlb := lft_bd g0 k0 HF.out j (by rw [HN.out]; exact hj)
    rw [HAL2.out.2.1] at hlb
    by_cases hlt : j < n
    · have hlt' : (j : Int) < (n : Int) := by omega
      obtain ⟨b, off, rfl, hcell⟩ := HO.out (by omega)
      obtain ⟨d, o, p, q, r, HNU, HX, HDUE⟩ := round_nums (g := g) (k := k) (AL := AL) (w := w) g0 k0 HF.out HQ.out (by rw [HN.out]; exact hlt) HAL.out HAL2.out.1 HAL2.out.2.1 (fun w' hb => hcell w' hb j hlt) g1
      clear hcell
      obtain ⟨y0, y1, y2, y3⟩ := HX.out wr HB.out
      go_wp2_with fail
      refine (HDUE.out _).mono ?_
      rintro e w5 ⟨rfl, hb⟩
      have HB5 := Lib.hid (HB.out.trans (hb.mono HB.out.size))
      have HG5 := Lib.hid (HG.out.below hb)
      have HV5 : Hid (∀ b, (Value.slice x9 j c9).ownBlock = some b → b < w5.heap.size) := fun b hb' => (HG5.out.lt b hb').2
      clear hb y0 y1 y2 y3 HG
      obtain ⟨y0, y1, y2, y3⟩ := HX.out w5 HB5.out
      obtain ⟨m0, m1, m2, s9, N2, s4, s5, A2, HM⟩ := round_mins (N := N) HNU.out HAL2.out.2.2
      obtain ⟨n1, n2, n3, n4, n5⟩ := HNU.out.bds
      have HR0 : Hid (REnd w5 (w5.alloc (.cells #[.int .i64 A, .int .i64 (A + d), .int .i64 (A + d + o)] 3)) w.heap.size w5.heap.size (.slice x9 j c9) j (takenL g k l j) (ends 0 (AL) A (A + d) (A + d + o))) := ⟨own_lit w5 [A, A + d, A + d + o] _, HG5.out.alloc _, ubelow_box _ _⟩
      have hEb := Nat.le_refl w5.heap.size
      have HVE : Hid (∀ b, (Value.slice x9 j c9).ownBlock = some b → b ≠ w5.heap.size) := fun b hb => by have := HV5.out b hb; omega
      have hw1 : IntKind.i64.wrap (A + d) = A + d := IntWalk.i64_in _ (by omega)
      go_wp2_with fail
      go_loopw [15] (fun iv wr' => ∃ i : Nat, i ≤ 3 ∧ iv = .int .i64 i ∧ REnd w5 wr' w.heap.size w5.heap.size (.slice x9 j c9) j (takenL g k l j) (ends i (AL) A (A + d) (A + d + o))) (fun iv _ => 3 - (intOf iv).toNat)
      case atStart => exact ⟨0, by omega, rfl, HR0.out⟩
      case round =>
        clear HR0 y0 y1 y2 y3
        obtain ⟨i, hi, rfl, hR⟩ := hrel
        rcases (show i = 0 ∨ i = 1 ∨ i = 2 ∨ i = 3 by omega) with rfl | rfl | rfl | rfl
        · have c0 := hR.1.cell (j := 0) (by simp [ends])
          have f0 := hR.1.free (j := 0) (by simp [ends])
          have e0 : nth (ends 0 (AL) A (A + d) (A + d + o)) 0 = A := by simp [ends, nth, cutI]
          rw [e0] at c0
          have HR := Lib.hid hR
          clear hR e0
          by_cases h1 : (AL) < A
          · have HM : Hid (min A (AL) = AL) := by unfold Hid; omega
            have HSJ : Hid (ends 1 (AL) A (A + d) (A + d + o) = (ends 0 (AL) A (A + d) (A + d + o)).set 0 (AL)) := by
              unfold Hid
              have := HM.out
              simp [ends, cutI]
              omega
            have HN2 := Lib.hid (HR.out.set hEb HVE.out (i := 0) (by simp [ends]) AL)
            go_wp2_with fail
            go_roundw
            case rel => exact ⟨1, by omega, rfl, by rw [HSJ.out]; exact HN2.out⟩
            case measure => simp [intOf]
          · have HM : Hid (min A (AL) = A) := by unfold Hid; omega
            have HSM : Hid (ends 1 (AL) A (A + d) (A + d + o) = ends 0 (AL) A (A + d) (A + d + o)) := by
              unfold Hid
              have := HM.out
              simp [ends, cutI]
              omega
            go_wp2_with fail
            go_roundw
            case rel => exact ⟨1, by omega, rfl, by rw [HSM.out]; exact HR.out⟩
            case measure => simp [intOf]
        · have c0 := hR.1.cell (j := 1) (by simp [ends])
          have f0 := hR.1.free (j := 1) (by simp [ends])
          have e0 : nth (ends 1 (AL) A (A + d) (A + d + o)) 1 = (A + d) := by simp [ends, nth, cutI]
          rw [e0] at c0
          have HR := Lib.hid hR
          clear hR e0
          by_cases h1 : (AL) < (A + d)
          · have HM : Hid (min (A + d) (AL) = AL) := by unfold Hid; omega
            have HSJ : Hid (ends 2 (AL) A (A + d) (A + d + o) = (ends 1 (AL) A (A + d) (A + d + o)).set 1 (AL)) := by
              unfold Hid
              have := HM.out
              simp [ends, cutI]
              omega
            have HN2 := Lib.hid (HR.out.set hEb HVE.out (i := 1) (by simp [ends]) AL)
            go_wp2_with fail
            go_roundw
            case rel => exact ⟨2, by omega, rfl, by rw [HSJ.out]; exact HN2.out⟩
            case measure => simp [intOf]
          · have HM : Hid (min (A + d) (AL) = (A + d)) := by unfold Hid; omega
            have HSM : Hid (ends 2 (AL) A (A + d) (A + d + o) = ends 1 (AL) A (A + d) (A + d + o)) := by
              unfold Hid
              have := HM.out
              simp [ends, cutI]
              omega
            go_wp2_with fail
            go_roundw
            case rel => exact ⟨2, by omega, rfl, by rw [HSM.out]; exact HR.out⟩
            case measure => simp [intOf]
        · have c0 := hR.1.cell (j := 2) (by simp [ends])
          have f0 := hR.1.free (j := 2) (by simp [ends])
          have e0 : nth (ends 2 (AL) A (A + d) (A + d + o)) 2 = (A + d + o) := by simp [ends, nth, cutI]
          rw [e0] at c0
          have HR := Lib.hid hR
          clear hR e0
          by_cases h1 : (AL) < (A + d + o)
          · have HM : Hid (min (A + d + o) (AL) = AL) := by unfold Hid; omega
            have HSJ : Hid (ends 3 (AL) A (A + d) (A + d + o) = (ends 2 (AL) A (A + d) (A + d + o)).set 2 (AL)) := by
              unfold Hid
              have := HM.out
              simp [ends, cutI]
              omega
            have HN2 := Lib.hid (HR.out.set hEb HVE.out (i := 2) (by simp [ends]) AL)
            go_wp2_with fail
            go_roundw
            case rel => exact ⟨3, by omega, rfl, by rw [HSJ.out]; exact HN2.out⟩
            case measure => simp [intOf]
          · have HM : Hid (min (A + d + o) (AL) = (A + d + o)) := by unfold Hid; omega
            have HSM : Hid (ends 3 (AL) A (A + d) (A + d + o) = ends 2 (AL) A (A + d) (A + d + o)) := by
              unfold Hid
              have := HM.out
              simp [ends, cutI]
              omega
            go_wp2_with fail
            go_roundw
            case rel => exact ⟨3, by omega, rfl, by rw [HSM.out]; exact HR.out⟩
            case measure => simp [intOf]
        · rw [HM.out.1] at hR
          have c0 : wr.cell? ⟨w5.heap.size, 0, none⟩ = some (.int .i64 m0) := hR.1.cell (j := 0) (by simp)
          have c1 : wr.cell? ⟨w5.heap.size, 1, none⟩ = some (.int .i64 m1) := hR.1.cell (j := 1) (by simp)
          have c2 : wr.cell? ⟨w5.heap.size, 2, none⟩ = some (.int .i64 m2) := hR.1.cell (j := 2) (by simp)
          have HR := Lib.hid hR
          clear hR
          obtain ⟨hw2, hw3, hw4, hw5, hw6, hw7, hw8, hw9⟩ := HM.out.2.1
          have hEw : w5.heap.size < wr.heap.size := HR.out.1.1
          have a0 : (wr.alloc (.cells #[.int .i64 0, .int .i64 0, .int .i64 0] 42)).cell? ⟨w5.heap.size, 0, none⟩ = some (.int .i64 m0) := by rw [World.cell?_alloc_past (w := wr) _ _ _ hEw]; exact c0
          have a1 : (wr.alloc (.cells #[.int .i64 0, .int .i64 0, .int .i64 0] 42)).cell? ⟨w5.heap.size, 1, none⟩ = some (.int .i64 m1) := by rw [World.cell?_alloc_past (w := wr) _ _ _ hEw]; exact c1
          have a2 : (wr.alloc (.cells #[.int .i64 0, .int .i64 0, .int .i64 0] 42)).cell? ⟨w5.heap.size, 2, none⟩ = some (.int .i64 m2) := by rw [World.cell?_alloc_past (w := wr) _ _ _ hEw]; exact c2
          go_wp2_with fail
          go_region
          have HN6 := Lib.hid (HR.out.boxed (.cells #[.int .i64 p, .int .i64 q, .int .i64 0] 42))
          obtain ⟨W6, hW6⟩ : ∃ W6, W6 = (wr.alloc (.cells #[.int .i64 p, .int .i64 q, .int .i64 0] 42)).drew := ⟨_, rfl⟩
          have b0 : W6.cell? ⟨wr.heap.size, 0, none⟩ = some (.int .i64 p) := by rw [hW6]; simp
          have b1 : W6.cell? ⟨wr.heap.size, 1, none⟩ = some (.int .i64 q) := by rw [hW6]; simp
          have b2 : W6.cell? ⟨wr.heap.size, 2, none⟩ = some (.int .i64 0) := by rw [hW6]; simp
          have f2 : W6.frozen? ⟨wr.heap.size, 2, none⟩ = false := by rw [hW6]; simp
          rw [← hW6] at HN6 ⊢
          clear hW6 c0 c1 c2 a0 a1 a2 HR hw2 hw3 hw1
          obtain ⟨y0, y1, y2, y3⟩ := HX.out W6 (HB5.out.trans (HN6.out.2.2.mono HB5.out.size))
          go_wp2_with fail
          go_region
          have HN7 := Lib.hid (HN6.out.other (X := wr.heap.size) (by omega) (by omega) (fun b hb => by have := HV5.out b hb; omega) 2 (.int .i64 r))
          obtain ⟨W7, hW7⟩ : ∃ W7, W7 = (W6.setCell ⟨wr.heap.size, 2, none⟩ (.int .i64 r)).drew := ⟨_, rfl⟩
          have g0' : W7.cell? ⟨wr.heap.size, 0, none⟩ = some (.int .i64 p) := by
            rw [hW7]
            show (W6.setCell ⟨wr.heap.size, 2, none⟩ (.int .i64 r)).cell? ⟨wr.heap.size, 0, none⟩ = _
            rw [World.cell?_setCell_other (w := W6) (h := by simp)]; exact b0
          have g1' : W7.cell? ⟨wr.heap.size, 1, none⟩ = some (.int .i64 q) := by
            rw [hW7]
            show (W6.setCell ⟨wr.heap.size, 2, none⟩ (.int .i64 r)).cell? ⟨wr.heap.size, 1, none⟩ = _
            rw [World.cell?_setCell_other (w := W6) (h := by simp)]; exact b1
          have g2' : W7.cell? ⟨wr.heap.size, 2, none⟩ = some (.int .i64 r) := by rw [hW7]; exact World.cell?_setCell_same W6 _ _ b2
          rw [← hW7] at HN7 ⊢
          clear hW7 y0 y1 y2 y3 b0 b1 b2 f2 HN6 hw5 hw6
          obtain ⟨y0, y1, y2, y3⟩ := HX.out W7 (HB5.out.trans (HN7.out.2.2.mono HB5.out.size))
          have d0 : W7.cell? ⟨w5.heap.size, 0, none⟩ = some (.int .i64 m0) := HN7.out.1.cell (j := 0) (by simp)
          have d2 : W7.cell? ⟨w5.heap.size, 2, none⟩ = some (.int .i64 m2) := HN7.out.1.cell (j := 2) (by simp)
          go_wp2_with fail
          go_quiet (fail)
          go_wp2_with (at_builtin; refine wpList_app_tk _ rfl _ _ rfl w.heap.size j _ (takenL g k l j) rfl ?hgw _ 1 p q r rfl ?h0 ?h1 ?h2 ?hl ?hB ?_; rotate_right; intro v9 w9 hg9 hb9; refine Hid.out ?_)
          case hgw => exact GrowF.alloc (w := W7.drewN _) HN7.out.2.1 _
          case h0 => exact tri0 (by simp) rfl
          case h1 => exact tri1 (by simp) rfl
          case h2 => exact tri2 (by simp) rfl
          case hl => omega
          case hB => have := HB5.out.size; have := HN7.out.2.2.size; simp; omega
          obtain ⟨y9, d9, rfl⟩ := hg9.slice
          have HG9 := Lib.hid hg9
          have HB7 := Lib.hid (HB5.out.trans (HN7.out.2.2.mono HB5.out.size))
          have HB9 := Lib.hid ((Below.alloc (ubelow_dN HB7.out _) (ubelow_dN HB7.out _).size _).trans hb9)
          clear hg9 hb9
          refine Lib.hid ?_
          go_wp2_with fail
          go_roundw
          case rel => exact ⟨j + 1, A2, L - (p + q), N2, by omega, by go_num, rfl, rfl, ⟨by rw [HM.out.2.2.2]; exact HNU.out.ask, HNU.out.left, HM.out.2.2.1⟩, by rw [HNU.out.tak]; exact HG9.out, HB9.out⟩
          case measure => simp [intOf]; omega
    · obtain rfl : j = n := by omega
      have HTK := Lib.hid HG.out.tk
      have HV : Hid (N = min g k + lft g k l j) := by unfold Hid; rw [HAL2.out.2.1, HAL2.out.2.2]; have := HL0.out; rw [HAL.out] at this; omega
      go_wp2_with fail
      go_ret2
      exact ⟨x9, c9, uret_t HV.out, HTK.out, HB.out⟩
end Go.Proofs.Ytciblhkcchaobaa
