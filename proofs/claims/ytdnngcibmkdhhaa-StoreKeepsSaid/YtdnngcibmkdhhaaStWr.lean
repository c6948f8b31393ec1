/-
  Promise S1: the walk of a disk's writing.
-/
import Derived.Test.YtdnngcibmkdhhaaStKp
namespace Go.Proofs.Ytdnngcibmkdhhaa
open Go.RowKit

set_option maxRecDepth 100000 in
set_option maxHeartbeats 4000000 in
theorem diskWrite_any (b : Nat) (x : Option Addr) (c : Nat) (D : Dk) (i : Int) (t : ByteArray) (w : World) (h : DkAt w b x c D) (hm : D.secs.length ≤ 9223372036854775807) (hp : -9223372036854775808 ≤ D.pow ∧ D.pow ≤ 9223372036854775807) (hw : 0 ≤ D.wrt ∧ D.wrt ≤ 9000000000000000000) (_ : t.size ≤ 9223372036854775807) :
    Calls Try.prog 48 #[.pointer (some ⟨b, 0, none⟩), .int .i64 i, .string t] w fun e w' => e = .returned (.int .i64 (wrE D i t)) ∧ DkAt w' b x c (wrD D i t) ∧ Kp b x w w' := by
  have HD := Lib.hid h
  obtain ⟨⟨c0, f0⟩, ⟨c1, f1⟩, ⟨c2, f2⟩, c3, f3⟩ := h.1.four
  have HE : Hid (wrE D i t = if D.pow = 0 ∨ D.off = true then 8 else if (0 ≤ i ∧ i < D.secs.length) ∧ t.size = 64 then 0 else 3) := rfl
  have HW : Hid (wrD D i t = if D.pow = 0 then { D with off := true } else if wrE D i t = 0 then ⟨D.secs.set i.toNat t, if 0 < D.pow then D.pow - 1 else D.pow, D.wrt + 1, D.off⟩ else D) := rfl
  obtain ⟨n, hn⟩ : ∃ n, D.secs.length = n := ⟨_, rfl⟩
  have HN := Lib.hid hn
  rw [hn] at c0 HE hm
  clear h hn f0
  by_cases hp0 : D.pow = 0
  · rw [if_pos (.inl hp0)] at HE
    rw [if_pos hp0] at HW
    have HD2 : Hid (DkAt (w.setCell ⟨b, 3, none⟩ (.bool true)) b x c { D with off := true }) := by
      refine ⟨HD.out.1.set 3 (.bool true), fun h0 => ?_⟩
      obtain ⟨g, h1, h2, h3, h4⟩ := HD.out.2 h0
      refine ⟨g, h1, h2, by simpa [World.setCell] using h3, fun j hj => ⟨?_, ?_⟩⟩
      · rw [World.cell?_setCell_other (h := fun e => h2 (by injection e; omega))]
        exact (h4 j hj).1
      · rw [World.frozen?_setCell]
        exact (h4 j hj).2
    rw [hp0] at c1
    go_enter Try.func48, Try.ntmps48
    go_wp2_with fail
    go_ret
    exact ⟨st_ret HE.out.symm, by rw [HW.out]; exact HD2.out, Kp.set w (.inl rfl) _⟩
  · rw [if_neg hp0] at HW
    have hp1 : (D.pow == 0) = false := by simpa using hp0
    have hp2 : decide (D.pow = 0) = false := decide_eq_false hp0
    cases hof : D.off
    · rw [if_neg (fun z => by rcases z with z | z; exact hp0 z; rw [hof] at z; cases z)] at HE
      rw [hof] at c3
      by_cases hi : (0 ≤ i ∧ i < n) ∧ t.size = 64
      · rw [if_pos hi] at HE
        rw [if_pos HE.out] at HW
        obtain ⟨hi, ht64⟩ := hi
        obtain ⟨k, rfl⟩ : ∃ k : Nat, i = (k : Int) := ⟨i.toNat, by omega⟩
        have hkn : k < n := by omega
        obtain ⟨g, rfl, hgb, hgl, hc⟩ := HD.out.2 (by rw [HN.out]; omega)
        obtain ⟨z0, zf⟩ := hc k (by rw [HN.out]; exact hkn)
        have HCC := Lib.hid hc
        have hk' : (k : Int) < (n : Int) := by omega
        have hk0 : decide ((k : Int) < 0) = false := decide_eq_false (by omega)
        have hk2 : decide ((n : Int) ≤ (k : Int)) = false := decide_eq_false (by omega)
        have h64 : ((t.size : Int) != 64) = false := by simp [ht64]
        have h64' : decide ((t.size : Int) = 64) = true := decide_eq_true (by omega)
        have hbg : b ≠ g := fun e => hgb e.symm
        have hwr2 : IntKind.i64.wrap (D.wrt + 1) = D.wrt + 1 := IntWalk.i64_in _ (by omega)
        clear hc
        by_cases hpp : 0 < D.pow
        · have hpp' : decide (0 < D.pow) = true := decide_eq_true hpp
          have hwr1 : IntKind.i64.wrap (D.pow - 1) = D.pow - 1 := IntWalk.i64_in _ (by omega)
          have HPW : Hid (OB (w.setCell ⟨b, 1, none⟩ (.int .i64 (D.pow - 1))) b #[.slice (some ⟨g, 0, none⟩) D.secs.length c, .int .i64 (D.pow - 1), .int .i64 D.wrt, .bool D.off] 40) := by
            have q := HD.out.1.set 1 (.int .i64 (D.pow - 1))
            unfold OB at q
            unfold Hid OB
            rw [q]
            simp
          have HF : Hid (DkAt (((w.setCell ⟨b, 1, none⟩ (.int .i64 (D.pow - 1))).setCell ⟨g, k, none⟩ (.string t)).setCell ⟨b, 2, none⟩ (.int .i64 (D.wrt + 1))) b (some ⟨g, 0, none⟩) c (wrD D (k : Int) t)) := by
            unfold Hid
            rw [HW.out, if_pos hpp]
            refine DkAt.put (o := D.off) (n := D.wrt) (p := D.pow - 1) (HPW.out) hgb (by simp; exact hgl) (fun j hj => ⟨?_, ?_⟩) (by rw [HN.out]; exact hkn) _
            · rw [World.cell?_setCell_other (h := fun e => hgb (by injection e; omega))]
              exact (HCC.out j hj).1
            · rw [World.frozen?_setCell]
              exact (HCC.out j hj).2
          have HKP : Hid (Kp b (some ⟨g, 0, none⟩) w (((w.setCell ⟨b, 1, none⟩ (.int .i64 (D.pow - 1))).setCell ⟨g, k, none⟩ (.string t)).setCell ⟨b, 2, none⟩ (.int .i64 (D.wrt + 1)))) := ((Kp.set w (p := ⟨b, 1, none⟩) (.inl rfl) (.int .i64 (D.pow - 1))).trans (Kp.set (w.setCell ⟨b, 1, none⟩ (.int .i64 (D.pow - 1))) (p := ⟨g, k, none⟩) (.inr ⟨⟨g, 0, none⟩, rfl, rfl⟩) (.string t))).trans (Kp.set ((w.setCell ⟨b, 1, none⟩ (.int .i64 (D.pow - 1))).setCell ⟨g, k, none⟩ (.string t)) (p := ⟨b, 2, none⟩) (.inl rfl) (.int .i64 (D.wrt + 1)))
          clear ht64
          go_enter Try.func48, Try.ntmps48
          go_wp2_with fail
          go_ret
          exact ⟨st_ret HE.out.symm, HF.out, HKP.out⟩
        · have hpp' : decide (0 < D.pow) = false := decide_eq_false hpp
          have HF : Hid (DkAt ((w.setCell ⟨g, k, none⟩ (.string t)).setCell ⟨b, 2, none⟩ (.int .i64 (D.wrt + 1))) b (some ⟨g, 0, none⟩) c (wrD D (k : Int) t)) := by
            unfold Hid
            rw [HW.out, if_neg hpp]
            exact DkAt.put HD.out.1 hgb hgl HCC.out (by rw [HN.out]; exact hkn) _
          have HKP : Hid (Kp b (some ⟨g, 0, none⟩) w ((w.setCell ⟨g, k, none⟩ (.string t)).setCell ⟨b, 2, none⟩ (.int .i64 (D.wrt + 1)))) := (Kp.set w (p := ⟨g, k, none⟩) (.inr ⟨⟨g, 0, none⟩, rfl, rfl⟩) (.string t)).trans (Kp.set (w.setCell ⟨g, k, none⟩ (.string t)) (p := ⟨b, 2, none⟩) (.inl rfl) (.int .i64 (D.wrt + 1)))
          clear ht64
          go_enter Try.func48, Try.ntmps48
          go_wp2_with fail
          go_ret
          exact ⟨st_ret HE.out.symm, HF.out, HKP.out⟩
      · rw [if_neg hi] at HE
        rw [if_neg (by rw [HE.out]; decide)] at HW
        by_cases h0 : i < 0
        · have h0' : decide (i < 0) = true := decide_eq_true h0
          go_enter Try.func48, Try.ntmps48
          go_wp2_with fail
          go_ret
          exact ⟨st_ret HE.out.symm, by rw [HW.out]; exact HD.out, Kp.refl _ _ _⟩
        · have h0' : decide (i < 0) = false := decide_eq_false h0
          by_cases h1 : (n : Int) ≤ i
          · have h1' : decide ((n : Int) ≤ i) = true := decide_eq_true h1
            go_enter Try.func48, Try.ntmps48
            go_wp2_with fail
            go_ret
            exact ⟨st_ret HE.out.symm, by rw [HW.out]; exact HD.out, Kp.refl _ _ _⟩
          · have h1' : decide ((n : Int) ≤ i) = false := decide_eq_false h1
            have h6 : ¬ t.size = 64 := fun z => hi ⟨by omega, z⟩
            have h6' : ((t.size : Int) != 64) = true := by
              have : ¬ (t.size : Int) = 64 := by omega
              simpa using this
            have h6d : decide ((t.size : Int) = 64) = false := decide_eq_false (by omega)
            clear hi
            go_enter Try.func48, Try.ntmps48
            go_wp2_with fail
            go_ret
            exact ⟨st_ret HE.out.symm, by rw [HW.out]; exact HD.out, Kp.refl _ _ _⟩
    · rw [if_pos (.inr hof)] at HE
      rw [if_neg (by rw [HE.out]; decide)] at HW
      rw [hof] at c3
      go_enter Try.func48, Try.ntmps48
      go_wp2_with fail
      go_ret
      exact ⟨st_ret HE.out.symm, by rw [HW.out]; exact HD.out, Kp.refl _ _ _⟩
end Go.Proofs.Ytdnngcibmkdhhaa
