/-
  Promise U3: the walk of readable.
-/
import Derived.Test.YtmchanddfodhaaaDoorShBxA
namespace Go.Proofs.YtmchanddfodhaaaDoor
open Go.RowKit Go.Shelf Mny

set_option maxHeartbeats 1000000 in
set_option maxRecDepth 1000000 in
theorem readable_any (s : ByteArray) (w : World) (hs : s.size ≤ 200) : Calls Tryd.prog 29 #[.string s] w fun e w' => e = .returned (.string (shownT s)) ∧ Below w.heap.size w w' := by
  have HSL := Lib.hid (shown_len s).1
  go_enter Tryd.func29, Tryd.ntmps29
  go_wp2_with fail
  go_loopw [] (fun wr => ∃ (p : Nat) (acc : List UInt8), Bld wr w.heap.size w.heap.size acc ∧ wr.heap[w.heap.size + 1]? = some (.stringIter s p) ∧ Below w.heap.size w wr ∧ acc ++ restS s p = shownL s) (fun wr => s.size - wr.iterPos (w.heap.size + 1))
  case atStart =>
    refine ⟨0, [], (Bld.fresh w).below (kbelow_box _ _), ?_, ((Below.refl _ w).alloc (Nat.le_refl _) _).alloc (by simp) _, rfl⟩
    have := World.iter_heap (w.alloc (.cells #[.pointer none, .slice none 0 0] 42)) s 0
    simpa using this
  case round =>
    obtain ⟨p, acc, hI, hit, hbw, hacc⟩ := hrel
    have HI := Lib.hid hI
    have HIT := Lib.hid hit
    have HBW := Lib.hid hbw
    have HACC := Lib.hid hacc
    have hsz : w.heap.size + 1 < wr.heap.size := (Array.getElem?_eq_some_iff.1 hit).1
    have hal : acc.length ≤ 200 := by
      have := congrArg List.length hacc
      rw [HSL.out, List.length_append] at this
      omega
    clear hI hbw hacc
    by_cases hp : p < s.size
    · have hnx : ∀ ty, (Instr.next (.pointer (some ⟨w.heap.size + 1, 0, none⟩)) true ty).run Tryd.prog wr = _ := fun ty => Lib.run_next_any_at wr (w.heap.size + 1) s p ty hit hp
      have hst := decode_step hp
      have h3 := stepN_pos s p
      have HI2 : Hid (Bld (wr.iterAt (w.heap.size + 1) s (p + (Utf8.decode s p).2)) w.heap.size w.heap.size acc) := Lib.IsBuilderF.iterAt HI.out hit (p + (Utf8.decode s p).2)
      have HIT2 := Lib.hid (Lib.iterAt_heap wr (w.heap.size + 1) s p (p + (Utf8.decode s p).2) hit)
      have HBW2 := Lib.hid (Lib.below_iterAt HBW.out (k := w.heap.size + 1) (by omega) s (p + (Utf8.decode s p).2))
      have hsz2 : w.heap.size ≤ (wr.iterAt (w.heap.size + 1) s (p + (Utf8.decode s p).2)).heap.size := by rw [Lib.iterAt_size]; omega
      have HSZ2 := Lib.hid hsz2
      obtain ⟨hrs, _⟩ := rest_step hp
      have HRS := Lib.hid hrs
      have HBR := Lib.hid (fun w => broken_any s p hp w)
      have HDL := Lib.hid (decode_let s p hp)
      have hpI : (p : Int) ≤ (s.size : Int) := by omega
      clear hrs hit hsz2
      rcases HDL.out with ⟨q1, -, -⟩ | ⟨r, q1, q2, q3, q4, q5, -⟩
      · have HPC : Hid (piece s p = [63]) := by unfold Hid piece; rw [if_pos q1]
        rw [decide_eq_true q1] at HBR
        have HST : Hid (p + (Utf8.decode s p).2 = p + stepN s p) := by unfold Hid; rw [hst]
        have HM : Hid (s.size - (p + stepN s p) < s.size - p) := by unfold Hid; omega
        clear q1 hst h3
        go_wp2_with fail
        refine (HBR.out _).mono ?_
        rintro e w1 ⟨rfl, h'⟩
        subst w1
        go_wp2_with fail
        refine (rune_any w.heap.size w.heap.size acc 63 (by decide) _ HI2.out (by omega) HSZ2.out).mono ?_
        rintro e w2 ⟨⟨kk, rfl⟩, hb2, hbe2, ho2⟩
        have HIT3 := Lib.hid (ho2.iter HIT2.out (by omega))
        have HBW3 := Lib.hid (HBW2.out.trans hbe2)
        have HI3 := Lib.hid hb2
        rw [HST.out] at HIT3
        clear hb2 hbe2 ho2
        go_wp2_with fail
        go_roundw
        case rel =>
          refine ⟨p + stepN s p, acc ++ [63], HI3.out, HIT3.out, HBW3.out, ?_⟩
          rw [← HACC.out, HRS.out, HPC.out, List.append_assoc]
        case measure =>
          simp only [World.iterPos, HIT3.out, HIT.out]
          exact HM.out
      · have hn0 : ¬ letN s p = 0 := by omega
        have HPC : Hid (piece s p = Lib.encodeRune (r : Int)) := by unfold Hid piece; rw [if_neg hn0, bytesAt_rune q4 q5]
        rw [decide_eq_false hn0] at HBR
        have HST : Hid (p + (Utf8.decode s p).2 = p + stepN s p) := by unfold Hid; rw [hst]
        have HM : Hid (s.size - (p + stepN s p) < s.size - p) := by unfold Hid; omega
        have HR3 := Lib.hid q3
        have hr1 : (Utf8.decode s p).1 = r := by rw [q2]
        have HR1 := Lib.hid hr1
        clear q1 q2 q3 q4 q5 hn0 hst h3 hr1
        go_wp2_with fail
        refine (HBR.out _).mono ?_
        rintro e w1 ⟨rfl, h'⟩
        subst w1
        rw [HR1.out]
        go_wp2_with fail
        refine (rune_any w.heap.size w.heap.size acc r HR3.out _ HI2.out (by omega) HSZ2.out).mono ?_
        rintro e w2 ⟨⟨kk, rfl⟩, hb2, hbe2, ho2⟩
        have HIT3 := Lib.hid (ho2.iter HIT2.out (by omega))
        have HBW3 := Lib.hid (HBW2.out.trans hbe2)
        have HI3 := Lib.hid hb2
        rw [HST.out] at HIT3
        clear hb2 hbe2 ho2
        go_wp2_with fail
        go_roundw
        case rel =>
          refine ⟨p + stepN s p, acc ++ Lib.encodeRune (r : Int), HI3.out, HIT3.out, HBW3.out, ?_⟩
          rw [← HACC.out, HRS.out, HPC.out, List.append_assoc]
        case measure =>
          simp only [World.iterPos, HIT3.out, HIT.out]
          exact HM.out
    · have hnx : ∀ ty, (Instr.next (.pointer (some ⟨w.heap.size + 1, 0, none⟩)) true ty).run Tryd.prog wr = _ := fun ty => Lib.run_next_end_at wr (w.heap.size + 1) s p ty hit hp
      have HFI : Hid (acc = shownL s) := by
        have := HACC.out
        rw [(rest_end hp).1, List.append_nil] at this
        exact this
      go_wp2_with fail
      refine (string_any w.heap.size w.heap.size acc _ HI.out (by omega)).mono ?_
      rintro e w1 ⟨rfl, hb1⟩
      have HB1 := Lib.hid (HBW.out.trans hb1)
      clear hb1
      go_wp2_with fail
      go_ret
      refine ⟨?_, HB1.out⟩
      rw [HFI.out]
      rfl
end Go.Proofs.YtmchanddfodhaaaDoor
