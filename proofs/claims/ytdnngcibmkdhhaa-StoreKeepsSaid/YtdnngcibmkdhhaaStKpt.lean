/-
  Promise S1: the walk of a store's kept, on a disk in order.
-/
import Derived.Test.YtdnngcibmkdhhaaStHed
import Derived.Test.YtdnngcibmkdhhaaStBld
import Derived.Deep.RegionWith
set_option linter.unusedSimpArgs false
namespace Go.Proofs.Ytdnngcibmkdhhaa
open Go.RowKit

theorem catL_len {l : List ByteArray} (hg : GS l) {o : Nat} : ∀ k, o + k ≤ l.length → (catL l o k).length = k * 64
  | 0, _ => rfl
  | k + 1, h => by
    show (catL l o k ++ _).length = _
    rw [List.length_append, catL_len hg k (by omega)]
    have := hg.2.1 (o + k) (by omega)
    have e : (dnth l (o + k)).data.toList.length = (dnth l (o + k)).size := by simp
    omega
set_option maxRecDepth 100000 in
set_option maxHeartbeats 2000000 in
theorem kept_any (q b : Nat) (x : Option Addr) (c : Nat) (D : Dk) (o : Bool) (w : World) (h : DkAt w b x c D) (hs : StAt w q b o) (hg : GS D.secs) (ho : D.off = false) :
    Calls Try.prog 18 #[.pointer (some ⟨q, 0, none⟩)] w fun e w' => e = .returned (.tuple #[.string (keptT D.secs), .int .i64 0]) ∧ Below w.heap.size w w' := by
  have HHD := Lib.hid (head_any q b x c D o w h hs hg ho)
  have HD := Lib.hid h
  have HS := Lib.hid hs
  have HG := Lib.hid hg
  have HO := Lib.hid ho
  obtain ⟨b1, b2, _⟩ := hd_of hg.2.2
  have HKT : Hid (keptT D.secs = ⟨((catL D.secs (1 + hdH (dnth D.secs 0) * 32) ((hdL (dnth D.secs 0) + 63) / 64)).take (hdL (dnth D.secs 0))).toArray⟩) := rfl
  have h80 := hg.1.1
  generalize hdH (dnth D.secs 0) = H at *
  generalize hdL (dnth D.secs 0) = L at *
  generalize keptT D.secs = T at *
  clear h hs hg ho
  go_enter Try.func18, Try.ntmps18
  go_wp2_with fail
  refine HHD.out.mono ?_
  rintro e w1 ⟨rfl, hb1⟩
  have HB1 := Lib.hid hb1
  have r0 := two_of w1 (.int .i64 0) (.int .i64 0) 48
  have r1 := two_fr w1 (.int .i64 0) (.int .i64 0) 48
  obtain ⟨r00, r01⟩ := r0
  obtain ⟨f00, f01⟩ := r1
  clear hb1
  go_wp2_with fail
  have hsz : (w1.alloc (.cells #[.int .i64 (H : Int), .int .i64 (L : Int)] 48)).heap.size = w1.heap.size + 1 := by simp
  have HBD := Lib.hid (Bld.fresh (w1.alloc (.cells #[.int .i64 (H : Int), .int .i64 (L : Int)] 48)))
  have HBX := Lib.hid (kbelow_box (w1.alloc (.cells #[.int .i64 (H : Int), .int .i64 (L : Int)] 48)) (.cells #[.pointer none, .slice none 0 0] 56))
  have HB0 := Lib.hid (kbelow_box w1 (.cells #[.int .i64 (H : Int), .int .i64 (L : Int)] 48))
  have HD1 := Lib.hid ((HD.out.below HB1.out).below HB0.out)
  have HS1 := Lib.hid ((HS.out.below HB1.out HS.out.lt).below HB0.out (Nat.lt_of_lt_of_le HS.out.lt HB1.out.size))
  obtain ⟨C0, C1⟩ := two_of w1 (.int .i64 (H : Int)) (.int .i64 (L : Int)) 48
  have HBE := Lib.hid (HB1.out.trans (HB0.out.mono HB1.out.size))
  have hq : q < w1.heap.size + 1 := by have := HS.out.lt; have := HB1.out.size; omega
  rw [hsz] at HBD HBX
  clear r00 r01 f00 f01 HD HS HHD HB0
  refine (sectors_any L _ (by omega)).mono ?_
  rintro e w2 ⟨rfl, h'⟩
  subst w2
  generalize hm : (L + 63) / 64 = m at *
  go_wp2_with fail
  go_loopw [21] (fun i wr => ∃ j : Nat, j ≤ m ∧ i = .int .i64 j ∧ Bld wr (w1.heap.size + 1) (w1.heap.size + 1) (catL D.secs (1 + H * 32) j) ∧ Below (w1.heap.size + 1) (w1.alloc (.cells #[.int .i64 (H : Int), .int .i64 (L : Int)] 48)) wr) (fun i _ => m - (intOf i).toNat)
  case atStart => exact ⟨0, Nat.zero_le _, rfl, HBD.out, HBX.out⟩
  case round =>
    obtain ⟨j, hj, rfl, hbd, hbw⟩ := hrel
    have p0 := (hbw.cell (p := ⟨w1.heap.size, 0, none⟩) (by simp)).trans C0
    have p1 := (hbw.cell (p := ⟨w1.heap.size, 1, none⟩) (by simp)).trans C1
    have HBd := Lib.hid hbd
    have HBw := Lib.hid hbw
    have hle := hbw.size
    rw [hsz] at hle
    clear hbd hbw
    by_cases hlt : j < m
    · have hltB : decide ((j : Int) < (m : Int)) = true := decide_eq_true (by omega)
      have HRD := Lib.hid (sread_any q b x c D o (1 + H * 32 + j) wr (HD1.out.below (by rw [hsz]; exact HBw.out)) (HS1.out.below HBw.out hq) HG.out HO.out (by omega))
      have hw : IntKind.i64.wrap (1 + (H : Int) * 32 + (j : Int)) = 1 + (H : Int) * 32 + (j : Int) := IntWalk.i64_in _ (by omega)
      rw [show ((1 + H * 32 + j : Nat) : Int) = 1 + (H : Int) * 32 + (j : Int) by omega] at HRD
      have HLN := Lib.hid (catL_len HG.out (o := 1 + H * 32) j (by omega))
      have HSZ := Lib.hid (HG.out.2.1 (1 + H * 32 + j) (by omega))
      go_wp2_with fail
      refine (first_any (H : Int) _ (by omega)).mono ?_
      rintro e w' ⟨rfl, h'⟩
      subst w'
      go_wp2_with fail
      refine HRD.out.mono ?_
      rintro e w' ⟨rfl, h'⟩
      subst w'
      go_wp2_with fail
      refine (write_any (w1.heap.size + 1) (w1.heap.size + 1) _ (dnth D.secs (1 + H * 32 + j)) wr HBd.out (by rw [HLN.out, HSZ.out]; omega) hle).mono ?_
      rintro e w8 ⟨rfl, hb8, hw8, -⟩
      have HB8 := Lib.hid hb8
      have HW8 := Lib.hid hw8
      clear hb8 hw8
      go_wp2_with fail
      go_roundw
      case rel => exact ⟨j + 1, by omega, by go_num, HB8.out, HBw.out.trans HW8.out⟩
      case measure => simp [intOf]; omega
    · obtain rfl : j = m := by omega
      have hltB : decide ((j : Int) < (j : Int)) = false := decide_eq_false (by omega)
      have HLN := Lib.hid (catL_len HG.out (o := 1 + H * 32) j (by omega))
      go_wp2_with fail
      have HBS := Lib.hid (bstring_any (w1.heap.size + 1) (w1.heap.size + 1) (catL D.secs (1 + H * 32) j) wr.drew (HBd.out.below (kbelow_dN (Below.refl _ _) 1)) hle)
      obtain ⟨T0, hT0⟩ : ∃ T0 : ByteArray, T0 = ⟨(catL D.secs (1 + H * 32) j).toArray⟩ := ⟨_, rfl⟩
      rw [← hT0] at HBS
      have HT0 := Lib.hid hT0
      have hL1 : (L : Int) ≤ (T0.size : Int) := by
        have : T0.size = (catL D.secs (1 + H * 32) j).length := by rw [hT0]; rfl
        have := HLN.out
        omega
      have hL0 : (0 : Int) ≤ (L : Int) := by omega
      have HTE : Hid (T = T0.extract 0 L) := by
        unfold Hid
        rw [HKT.out, hT0]
        apply ByteArray.ext
        rw [ByteArray.data_extract]
        show _ = (catL D.secs (1 + H * 32) j).toArray.extract 0 L
        simp
      have HFB : Hid (∀ {w7 : World}, Below (w1.heap.size + 1) wr.drew w7 → Below w.heap.size w w7) := fun hb => (HBE.out.trans (HBw.out.mono (by have := HB1.out.size; omega))).trans ((kbelow_dN (Below.refl w.heap.size wr) 1).trans (hb.mono (by have := HB1.out.size; omega)))
      clear hT0
      go_region_with (go_at_call 27; refine HBS.out.mono ?_; rintro e w7 ⟨rfl, hb7⟩; have HB7 := Lib.hid hb7; have y1 := (hb7.cell (p := ⟨w1.heap.size, 1, none⟩) (by simp)).trans p1; clear hb7)
      all_goals go_wp2_with fail
      all_goals go_ret2
      all_goals exact ⟨st_ret2 (by rw [HTE.out]; rfl) rfl, HFB.out HB7.out⟩
end Go.Proofs.Ytdnngcibmkdhhaa
