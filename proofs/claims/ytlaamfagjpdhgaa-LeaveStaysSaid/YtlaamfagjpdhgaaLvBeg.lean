/-
  Promise T1: the walk of begun.
-/
import Derived.Test.YtlaamfagjpdhgaaLvUse
namespace Go.Proofs.Ytlaamfagjpdhgaa
open Go.RowKit

set_option maxRecDepth 100000 in
set_option maxHeartbeats 4000000 in
theorem begun_any (h r c : Int) (w : World) (hd : dayB h = true) :
    Calls Try.prog 64 #[.agg #[.int .i64 h, .int .i64 r, .int .i64 c]] w fun e w' => e = .returned (accV h r c (nm h) (fm (nm h : Int)) 0 0) ∧ Below w.heap.size w w' := by
  have HD := Lib.hid hd
  clear hd
  go_enter Try.func64, Try.ntmps64
  go_wp2_with fail
  obtain ⟨W0, hW0⟩ : ∃ W0, W0 = (w.alloc (.cells #[.int .i64 h, .int .i64 r, .int .i64 c] 55)).alloc (.cells #[.int .i64 0, .int .i64 0, .int .i64 0, .int .i64 0, .int .i64 0, .int .i64 0, .int .i64 0, .int .i64 0, .int .i64 0] 89) := ⟨_, rfl⟩
  have HR0 : Hid (Own W0 (w.heap.size + 1) [0, 0, 0, 0, 0, 0, 0, 0, 0]) := by
    have := made9 (w.alloc (.cells #[.int .i64 h, .int .i64 r, .int .i64 c] 55)) 89
    rw [show (w.alloc (.cells #[.int .i64 h, .int .i64 r, .int .i64 c] 55)).heap.size = w.heap.size + 1 from by simp] at this
    rw [hW0]; exact this
  have HB0 : Hid (Below w.heap.size w W0) := by rw [hW0]; exact (lbelow_box w _).alloc (by simp) _
  have hs0 : W0.heap.size = w.heap.size + 2 := by rw [hW0]; simp
  have a0 : W0.cell? ⟨w.heap.size, 0, none⟩ = some (.int .i64 h) := by rw [hW0]; simp
  have a1 : W0.cell? ⟨w.heap.size, 1, none⟩ = some (.int .i64 r) := by rw [hW0]; simp
  have a2 : W0.cell? ⟨w.heap.size, 2, none⟩ = some (.int .i64 c) := by rw [hW0]; simp
  rw [← hW0]
  clear hW0
  refine (Civil_ok h _ HD.out).mono ?_
  rintro e w1 ⟨k, m, d, rfl, hci, hb1⟩
  obtain ⟨hn1, hm0, hm1, hk1⟩ := nm_civil hci
  have HN := Lib.hid hn1
  have hsz : w.heap.size + 2 ≤ w1.heap.size := by have := hb1.size; omega
  have HB1 := Lib.hid (HB0.out.trans (hb1.mono (by omega)))
  have HR1 := Lib.hid (HR0.out.below hb1 (by omega))
  have b0 : w1.cell? ⟨w.heap.size, 0, none⟩ = some (.int .i64 h) := (hb1.cell (p := ⟨w.heap.size, 0, none⟩) (by show w.heap.size < _; omega)).trans a0
  have b1 : w1.cell? ⟨w.heap.size, 1, none⟩ = some (.int .i64 r) := (hb1.cell (p := ⟨w.heap.size, 1, none⟩) (by show w.heap.size < _; omega)).trans a1
  have b2 : w1.cell? ⟨w.heap.size, 2, none⟩ = some (.int .i64 c) := (hb1.cell (p := ⟨w.heap.size, 2, none⟩) (by show w.heap.size < _; omega)).trans a2
  have HBD := Lib.hid (lbelow_box w1 (.cells #[.int .i64 (2000 + (k : Int)), .int .i64 (m : Int), .int .i64 d] 59))
  have c0 := (HBD.out.cell (p := ⟨w.heap.size, 0, none⟩) (by show w.heap.size < _; omega)).trans b0
  have c1 := (HBD.out.cell (p := ⟨w.heap.size, 1, none⟩) (by show w.heap.size < _; omega)).trans b1
  have c2 := (HBD.out.cell (p := ⟨w.heap.size, 2, none⟩) (by show w.heap.size < _; omega)).trans b2
  have HAC : Hid (Acc ((w1.alloc (.cells #[.int .i64 (2000 + (k : Int)), .int .i64 (m : Int), .int .i64 d] 59)).alloc (.cells #[.int .i64 h, .int .i64 r, .int .i64 c, .int .i64 (2000 + (k : Int)), .int .i64 (m : Int), .int .i64 1, .int .i64 0, .int .i64 0, .int .i64 0] 89)) (w1.heap.size + 1) h r c (12 * k + m - 1) 0 0 0) := by
    have := acc_made (w1.alloc (.cells #[.int .i64 (2000 + (k : Int)), .int .i64 (m : Int), .int .i64 d] 59)) h r c (2000 + (k : Int)) (m : Int) 0 0 0 89
    rw [show (w1.alloc (.cells #[.int .i64 (2000 + (k : Int)), .int .i64 (m : Int), .int .i64 d] 59)).heap.size = w1.heap.size + 1 from by simp] at this
    unfold Hid Acc
    rw [show 2000 + ((12 * k + m - 1 : Nat) : Int) / 12 = 2000 + (k : Int) from by omega, show ((12 * k + m - 1 : Nat) : Int) % 12 + 1 = (m : Int) from by omega]
    exact this
  have HB2 := Lib.hid ((HBD.out.alloc HBD.out.size (.cells #[.int .i64 h, .int .i64 r, .int .i64 c, .int .i64 (2000 + (k : Int)), .int .i64 (m : Int), .int .i64 1, .int .i64 0, .int .i64 0, .int .i64 0] 89)))
  clear hb1 a0 a1 a2 hci
  go_wp2_with (first | (go_at_call 83; refine (turn_any (w1.heap.size + 1) h r c (12 * k + m - 1) 0 0 0 _ (by exact HAC.out) (by omega)).mono ?_; rintro e w3 ⟨rfl, hA3, hg3⟩; refine Hid.out ?_))
  rw [show 12 * k + m - 1 + 1 = nm h from by have := HN.out; omega] at hA3
  have HR3 := Lib.hid ((HR1.out.below HB2.out HR1.out.1).grown hg3 (by simp; omega))
  have HB3 := Lib.hid ((HB1.out.trans (HB2.out.mono (by omega))).grown hg3 (by simp; omega) (fun q hq => by cases hq; omega))
  unfold Acc at hA3
  obtain ⟨Y, hY⟩ : ∃ Y : Int, 2000 + (nm h : Int) / 12 = Y := ⟨_, rfl⟩
  obtain ⟨Mo, hMo⟩ : ∃ Mo : Int, (nm h : Int) % 12 + 1 = Mo := ⟨_, rfl⟩
  obtain ⟨Du, hDu⟩ : ∃ Du : Int, fm (nm h : Int) = Du := ⟨_, rfl⟩
  rw [hY, hMo, hDu] at hA3
  have HV : Hid (accV h r c (nm h) (fm (nm h : Int)) 0 0 = .agg #[.int .i64 h, .int .i64 r, .int .i64 c, .int .i64 Y, .int .i64 Mo, .int .i64 1, .int .i64 Du, .int .i64 0, .int .i64 0]) := by unfold Hid accV; rw [hY, hMo, hDu]
  clear hY hMo hDu HN hn1
  obtain ⟨⟨p0, p1, p2, p3, p4, p5, p6, p7, p8⟩, _⟩ := Own.nine hA3
  obtain ⟨⟨q0, q1, q2, q3, q4, q5, q6, q7, q8⟩, f0, f1, f2, f3, f4, f5, f6, f7, f8⟩ := HR3.out.nine
  clear hA3 hg3 c0 c1 c2 b0 b1 b2 HAC HBD HB2 HR1 HB1
  refine Lib.hid ?_
  go_wp2_with fail
  have HBF := Lib.hid (((((((((HB3.out.setCell (p := ⟨w.heap.size + 1, 0, none⟩) (by simp) (.int .i64 h)).setCell (p := ⟨w.heap.size + 1, 1, none⟩) (by simp) (.int .i64 r)).setCell (p := ⟨w.heap.size + 1, 2, none⟩) (by simp) (.int .i64 c)).setCell (p := ⟨w.heap.size + 1, 3, none⟩) (by simp) (.int .i64 Y)).setCell (p := ⟨w.heap.size + 1, 4, none⟩) (by simp) (.int .i64 Mo)).setCell (p := ⟨w.heap.size + 1, 5, none⟩) (by simp) (.int .i64 1)).setCell (p := ⟨w.heap.size + 1, 6, none⟩) (by simp) (.int .i64 Du)).setCell (p := ⟨w.heap.size + 1, 7, none⟩) (by simp) (.int .i64 0)).setCell (p := ⟨w.heap.size + 1, 8, none⟩) (by simp) (.int .i64 0))
  obtain ⟨⟨r0, r1, r2, r3, r4, r5, r6, r7, r8⟩, _⟩ := (HR3.out.all9 h r c Y Mo 1 Du 0 0).nine
  refine bodyPost_ret (v := .agg #[.int .i64 h, .int .i64 r, .int .i64 c, .int .i64 Y, .int .i64 Mo, .int .i64 1, .int .i64 Du, .int .i64 0, .int .i64 0]) (by simp [results, Try.results64, go_sem, r0, r1, r2, r3, r4, r5, r6, r7, r8] <;> rfl) rfl ⟨by rw [HV.out], HBF.out⟩
end Go.Proofs.Ytlaamfagjpdhgaa
