/-
  Promise S1: the walk of a store's keep, on a disk in order.
-/
import Derived.Test.YtdnngcibmkdhhaaStHed
import Derived.Deep.RegionWith
import Derived.Handy
set_option linter.unusedSimpArgs false
namespace Go.Proofs.Ytdnngcibmkdhhaa
open Go.RowKit

theorem wr_off {D : Dk} {i : Int} {t : ByteArray} (h : D.pow = 0) : wrE D i t = 8 ∧ wrD D i t = { D with off := true } := by
  unfold wrE wrD
  rw [if_pos (.inl h), if_pos h]
  exact ⟨rfl, rfl⟩
theorem wr_ok {D : Dk} {k : Nat} {t : ByteArray} (hp : ¬ D.pow = 0) (ho : D.off = false) (hk : k < D.secs.length) (ht : t.size = 64) : wrE D (k : Int) t = 0 ∧ wrD D (k : Int) t = ⟨D.secs.set k t, if 0 < D.pow then D.pow - 1 else D.pow, D.wrt + 1, D.off⟩ := by
  have h : wrE D (k : Int) t = 0 := by
    unfold wrE
    rw [if_neg (by rw [ho]; simp [hp]), if_pos ⟨⟨by omega, by omega⟩, ht⟩]
  refine ⟨h, ?_⟩
  unfold wrD
  rw [if_neg hp, if_pos h]
  rfl
/-- The numbers of a disk are small enough. -/
def PW (D : Dk) (n : Nat) : Prop := (-9223372036854775808 ≤ D.pow ∧ D.pow ≤ 9223372036854775807) ∧ 0 ≤ D.wrt ∧ D.wrt + n ≤ 9000000000000000000
/-- What keep comes to. -/
def KeepR (D : Dk) (s : ByteArray) (D' : Dk) (e : Int) : Prop := GS D'.secs ∧ (-9223372036854775808 ≤ D'.pow ∧ D'.pow ≤ 9223372036854775807) ∧ (D.wrt ≤ D'.wrt ∧ D'.wrt ≤ D.wrt + 33) ∧ ((e = 0 ∧ D'.off = false ∧ keptT D'.secs = s) ∨ (e = 8 ∧ D'.off = true ∧ keptT D'.secs = keptT D.secs ∧ 0 ≤ D.pow))
/-- Behind k rounds. -/
def RdIs (D : Dk) (h : Nat) (s : ByteArray) (k : Nat) (E : Dk) : Prop := HalfIs D.secs E.secs h s k ∧ E.off = false ∧ E.wrt = D.wrt + k ∧ (-9223372036854775808 ≤ E.pow ∧ E.pow ≤ 9223372036854775807) ∧ (D.pow < 0 → E.pow < 0)
theorem Kp.of {b : Nat} {x : Option Addr} {w w' : World} (h : Below w.heap.size w w') : Kp b x w w' := ⟨h.os, h.tape, h.output, h.size, fun k hk _ _ => h.block k hk⟩
theorem DkAt.lt {w : World} {b c : Nat} {x : Option Addr} {D : Dk} (h : DkAt w b x c D) : b < w.heap.size := h.1.lt
theorem DkAt.xlt {w : World} {b c : Nat} {x : Option Addr} {D : Dk} (h : DkAt w b x c D) (h0 : 0 < D.secs.length) : ∀ a, x = some a → a.block < w.heap.size := by
  obtain ⟨g, e, _, h3, _⟩ := h.2 h0
  intro a ha
  rw [e] at ha
  injection ha with ha
  subst ha
  exact h3
theorem Kp.cell {b : Nat} {x : Option Addr} {w w' : World} (h : Kp b x w w') {p : Addr} (hp : p.block < w.heap.size) (hb : p.block ≠ b) (hx : ∀ a, x = some a → p.block ≠ a.block) : w'.cell? p = w.cell? p ∧ w'.frozen? p = w.frozen? p := by
  have := h.2.2.2.2 p.block hp hb hx
  unfold World.cell? World.frozen?
  rw [this]
  exact ⟨rfl, rfl⟩
theorem StAt.kp {w w' : World} {q b : Nat} {o : Bool} {x : Option Addr} (h : StAt w q b o) (hk : Kp b x w w') (hq : q ≠ b) (hx : ∀ a, x = some a → q ≠ a.block) : StAt w' q b o :=
  ⟨(hk.cell (p := ⟨q, 0, none⟩) h.lt hq hx).1.trans h.1, (hk.cell (p := ⟨q, 1, none⟩) h.lt hq hx).1.trans h.2.1, (hk.cell (p := ⟨q, 1, none⟩) h.lt hq hx).2.trans h.2.2⟩
theorem RdIs.off {D E : Dk} {nx k : Nat} {s : ByteArray} (h : RdIs D nx s k E) (hg : GS D.secs) (hn : nx = 1 - hdH (dnth D.secs 0)) (hk : k ≤ 32) (h0 : E.pow = 0) : KeepR D s { E with off := true } 8 :=
  ⟨h.1.gs hg, h.2.2.2.1, ⟨by have := h.2.2.1; show D.wrt ≤ E.wrt; omega, by have := h.2.2.1; show E.wrt ≤ _; omega⟩, .inr ⟨rfl, rfl, h.1.kept hg hn hk, by have := h.2.2.2.2; omega⟩⟩
theorem pw_step {p : Int} (h : -9223372036854775808 ≤ p ∧ p ≤ 9223372036854775807) : -9223372036854775808 ≤ (if 0 < p then p - 1 else p) ∧ (if 0 < p then p - 1 else p) ≤ 9223372036854775807 := by
  split <;> omega
theorem RdIs.step {D E : Dk} {nx k : Nat} {s : ByteArray} (h : RdIs D nx s k E) (hk : 1 + nx * 32 + k < D.secs.length) : RdIs D nx s (k + 1) ⟨E.secs.set (1 + nx * 32 + k) (fillT (pieceT s k)), if 0 < E.pow then E.pow - 1 else E.pow, E.wrt + 1, E.off⟩ :=
  ⟨h.1.step hk, h.2.1, by have := h.2.2.1; show E.wrt + 1 = _; omega, pw_step h.2.2.2.1, fun hp => by have := h.2.2.2.2 hp; show (if 0 < E.pow then E.pow - 1 else E.pow) < 0; split <;> omega⟩
theorem RdIs.done {D E : Dk} {nx : Nat} {s : ByteArray} (h : RdIs D nx s ((s.size + 63) / 64) E) (hg : GS D.secs) (hn : nx ≤ 1) (hs : s.size ≤ 2000) : KeepR D s ⟨E.secs.set 0 (hdT nx s.size), if 0 < E.pow then E.pow - 1 else E.pow, E.wrt + 1, E.off⟩ 0 :=
  ⟨(h.1.done hg hn hs).1, pw_step h.2.2.2.1, ⟨by have := h.2.2.1; show D.wrt ≤ E.wrt + 1; omega, by have := h.2.2.1; show E.wrt + 1 ≤ _; omega⟩, .inl ⟨rfl, h.2.1, (h.1.done hg hn hs).2⟩⟩
theorem write_off (b : Nat) (x : Option Addr) (c : Nat) (E : Dk) (i : Int) (t : ByteArray) (w : World) (h : DkAt w b x c E) (hm : E.secs.length ≤ 100000) (hp : -9223372036854775808 ≤ E.pow ∧ E.pow ≤ 9223372036854775807) (hw : 0 ≤ E.wrt ∧ E.wrt ≤ 9000000000000000000) (ht : t.size = 64) (h0 : E.pow = 0) :
    Calls Try.prog 48 #[.pointer (some ⟨b, 0, none⟩), .int .i64 i, .string t] w fun e w' => e = .returned (.int .i64 8) ∧ DkAt w' b x c { E with off := true } ∧ Kp b x w w' := by
  have := diskWrite_any b x c E i t w h (by omega) hp hw (by omega)
  rw [(wr_off h0).1, (wr_off h0).2] at this
  exact this
theorem write_ok (b : Nat) (x : Option Addr) (c : Nat) (E : Dk) (k : Nat) (t : ByteArray) (w : World) (h : DkAt w b x c E) (hm : E.secs.length ≤ 100000) (hp : -9223372036854775808 ≤ E.pow ∧ E.pow ≤ 9223372036854775807) (hw : 0 ≤ E.wrt ∧ E.wrt ≤ 9000000000000000000) (ht : t.size = 64) (h0 : ¬ E.pow = 0) (ho : E.off = false) (hk : k < E.secs.length) :
    Calls Try.prog 48 #[.pointer (some ⟨b, 0, none⟩), .int .i64 (k : Int), .string t] w fun e w' => e = .returned (.int .i64 0) ∧ DkAt w' b x c ⟨E.secs.set k t, if 0 < E.pow then E.pow - 1 else E.pow, E.wrt + 1, E.off⟩ ∧ Kp b x w w' := by
  have := diskWrite_any b x c E (k : Int) t w h (by omega) hp hw (by omega)
  rw [(wr_ok h0 ho hk ht).1, (wr_ok h0 ho hk ht).2] at this
  exact this
theorem piece_ext {s : ByteArray} {k a hi : Nat} (ha : a = k * 64) (hh : hi = min ((k + 1) * 64) s.size) (hk : k * 64 ≤ s.size) : s.extract a hi = pieceT s k := by
  subst ha
  apply ByteArray.ext
  rw [ByteArray.data_extract]
  show _ = (pieceL s k).toArray
  rw [← Array.toList_inj]
  rw [Array.toList_extract]
  have hl : s.data.toList.length = s.size := by simp
  simp only [pieceL, List.extract_eq_take_drop]
  by_cases h : (k + 1) * 64 ≤ s.size
  · rw [show hi - k * 64 = 64 by omega]
  · rw [show hi - k * 64 = s.size - k * 64 by omega, List.take_of_length_le (by simp)]
    exact (List.take_of_length_le (by simp; omega)).symm
set_option maxRecDepth 100000 in
set_option maxHeartbeats 4000000 in
theorem keep_any (q b : Nat) (x : Option Addr) (c : Nat) (D : Dk) (o : Bool) (s : ByteArray) (w : World) (h : DkAt w b x c D) (hs : StAt w q b o) (hg : GS D.secs) (ho : D.off = false) (hp : PW D 40) (hqb : q ≠ b) (hqx : ∀ a, x = some a → q ≠ a.block) (hsz : s.size ≤ 2000) :
    Calls Try.prog 20 #[.pointer (some ⟨q, 0, none⟩), .string s] w fun e w' => ∃ D' v, KeepR D s D' v ∧ e = .returned (.int .i64 v) ∧ DkAt w' b x c D' ∧ Kp b x w w' := by
  have HHD := Lib.hid (head_any q b x c D o w h hs hg ho)
  have HD := Lib.hid h
  have HS := Lib.hid hs
  have HG := Lib.hid hg
  have HO := Lib.hid ho
  have HP := Lib.hid hp
  obtain ⟨b1, b2, _⟩ := hd_of hg.2.2
  have HHH : Hid (1 - hdH (dnth D.secs 0) = 1 - hdH (dnth D.secs 0)) := rfl
  have h80 := hg.1.1
  have hblt := h.lt
  have HXL := Lib.hid (h.xlt (by omega))
  have HQX := Lib.hid hqx
  generalize hH : hdH (dnth D.secs 0) = H at *
  generalize hdL (dnth D.secs 0) = L at *
  have HHQ := Lib.hid hH
  obtain ⟨nx, hnx⟩ : ∃ nx, nx = 1 - H := ⟨_, rfl⟩
  have hn1 : nx ≤ 1 := by omega
  have hnw : IntKind.i64.wrap (1 - (H : Int)) = (nx : Int) := by rw [IntWalk.i64_in _ (by omega)]; omega
  have HNX := Lib.hid hnx
  obtain ⟨m, hm⟩ : ∃ m, m = (s.size + 63) / 64 := ⟨_, rfl⟩
  have HSE := Lib.hid (fun w => sectors_any s.size w (by omega))
  rw [← hm] at HSE
  have hm32 : m ≤ 32 := by omega
  have HM := Lib.hid hm
  clear hnx hm
  clear h hs hg ho hp hqx hH HHH
  go_enter Try.func20, Try.ntmps20
  go_wp2_with fail
  refine HHD.out.mono ?_
  rintro e w1 ⟨rfl, hb1⟩
  have HB1 := Lib.hid hb1
  obtain ⟨r00, r01⟩ := two_of w1 (.int .i64 0) (.int .i64 0) 48
  obtain ⟨f00, f01⟩ := two_fr w1 (.int .i64 0) (.int .i64 0) 48
  clear hb1
  go_wp2_with fail
  have HW2 := Lib.hid ((kbelow_box w1 (.cells #[.int .i64 (H : Int), .int .i64 (L : Int)] 48)).alloc (kbelow_box w1 (.cells #[.int .i64 (H : Int), .int .i64 (L : Int)] 48)).size (.cells #[.int .i64 (nx : Int), .int .i64 (s.size : Int)] 48))
  have hbx := two_of (w1.alloc (.cells #[.int .i64 (H : Int), .int .i64 (L : Int)] 48)) (.int .i64 (nx : Int)) (.int .i64 (s.size : Int)) 48
  rw [show (w1.alloc (.cells #[.int .i64 (H : Int), .int .i64 (L : Int)] 48)).heap.size = w1.heap.size + 1 by simp] at hbx
  have HBX := Lib.hid hbx
  have HSZ2 : Hid (((w1.alloc (.cells #[.int .i64 (H : Int), .int .i64 (L : Int)] 48)).alloc (.cells #[.int .i64 (nx : Int), .int .i64 (s.size : Int)] 48)).heap.size = w1.heap.size + 2) := Lib.hid (by simp)
  clear r00 r01 f00 f01 hbx
  refine (HSE.out _).mono ?_
  rintro e w2 ⟨rfl, h'⟩
  subst w2
  go_wp2_with fail
  generalize (w1.alloc (.cells #[.int .i64 (H : Int), .int .i64 (L : Int)] 48)).alloc (.cells #[.int .i64 (nx : Int), .int .i64 (s.size : Int)] 48) = w2 at *
  have HB2 := Lib.hid (HB1.out.trans (HW2.out.mono HB1.out.size))
  have HD2 := Lib.hid (HD.out.below HB2.out)
  have HS2 := Lib.hid (HS.out.below HB2.out HS.out.lt)
  have hle1 := HB1.out.size
  go_loopw [28] (fun i wr => ∃ (k : Nat) (E : Dk), k ≤ m ∧ i = .int .i64 k ∧ RdIs D nx s k E ∧ DkAt wr b x c E ∧ Kp b x w2 wr) (fun i _ => m - (intOf i).toNat)
  case atStart => exact ⟨0, D, Nat.zero_le _, rfl, ⟨HalfIs.zero _ _ _, HO.out, by omega, HP.out.1, id⟩, HD2.out, Kp.refl _ _ _⟩
  case round =>
    obtain ⟨k, E, hk, rfl, hrd, hde, hke⟩ := hrel
    have HRD := Lib.hid hrd
    have HDE := Lib.hid hde
    have HKE := Lib.hid hke
    have hs2 := HSZ2.out
    have hle2 := hke.2.2.2.1
    have z0 := (hke.cell (p := ⟨w1.heap.size + 1, 0, none⟩) (by rw [hs2]; simp) (by simp; omega) (fun a ha => by have := HXL.out a ha; simp; omega)).1.trans HBX.out.1
    have z1 := (hke.cell (p := ⟨w1.heap.size + 1, 1, none⟩) (by rw [hs2]; simp) (by simp; omega) (fun a ha => by have := HXL.out a ha; simp; omega)).1.trans HBX.out.2
    have HSR := Lib.hid (HS2.out.kp hke hqb HQX.out)
    have hs0 := HSR.out.1
    clear hrd hde hke
    by_cases hlt : k < m
    · have hltB : decide ((k : Int) < (m : Int)) = true := decide_eq_true (by omega)
      have h1 : IntKind.i64.wrap ((k : Int) * 64) = (k : Int) * 64 := IntWalk.i64_in _ (by omega)
      have h2 : IntKind.i64.wrap ((k : Int) + 1) = (k : Int) + 1 := IntWalk.i64_in _ (by omega)
      have h3 : IntKind.i64.wrap (((k : Int) + 1) * 64) = ((k : Int) + 1) * 64 := IntWalk.i64_in _ (by omega)
      have h4 : IntKind.i64.wrap (1 + (nx : Int) * 32 + (k : Int)) = 1 + (nx : Int) * 32 + (k : Int) := IntWalk.i64_in _ (by omega)
      have hml := HM.out
      have h5 : (0 : Int) ≤ (k : Int) * 64 := by omega
      have HEL : Hid (E.secs.length ≤ 100000) := Lib.hid (by rw [HRD.out.1.1]; exact HG.out.1.2)
      have HEW : Hid (0 ≤ E.wrt ∧ E.wrt ≤ 9000000000000000000) := Lib.hid (by have := HRD.out.2.2.1; have := HP.out.2; omega)
      by_cases hmin : (k + 1) * 64 ≤ s.size
      · have h6 : ((k : Int) + 1) * 64 ≤ (s.size : Int) := by omega
        have h7 : (k : Int) * 64 ≤ ((k : Int) + 1) * 64 := by omega
        have HPE : Hid (s.extract (k * 64) ((k + 1) * 64) = pieceT s k) := Lib.hid (piece_ext rfl (by omega) (by omega))
        clear hml
        go_wp2_with fail
        rw [HPE.out]
        by_cases hp0 : E.pow = 0
        · have HWR := Lib.hid (fun w5 (hd : DkAt w5 b x c E) => write_off b x c E (1 + (nx : Int) * 32 + (k : Int)) (fillT (pieceT s k)) w5 hd HEL.out HRD.out.2.2.2.1 HEW.out (fillT_size (pieceT_size s k)) hp0)
          go_region_with (first | (go_at_call 25; refine (first_any (nx : Int) _ (by omega)).mono ?_; rintro e w5 ⟨rfl, h'⟩; subst w5) | (go_at_call 28; refine (filled_any (pieceT s k) _ (pieceT_size s k)).mono ?_; rintro e w5 ⟨rfl, hb5⟩; have HB5 := Lib.hid ((kbelow_dN (Below.refl wr.heap.size wr) 1).trans hb5); have z5 := (HB5.out.cell (p := ⟨w1.heap.size + 1, 0, none⟩) (by simp; omega)).trans z0; have s5 := (HB5.out.cell (p := ⟨q, 0, none⟩) HSR.out.lt).trans hs0; have HD5 := Lib.hid (HDE.out.below HB5.out); clear hb5) | (go_at_call 48; refine (HWR.out _ HD5.out).mono ?_; rintro e w6 ⟨rfl, hd6, hk6⟩; have HD6 := Lib.hid hd6; have HK6 := Lib.hid ((HKE.out.trans (Kp.of HB5.out)).trans hk6); clear hd6 hk6))
          all_goals go_wp2_with fail
          all_goals go_ret
          all_goals exact ⟨{ E with off := true }, 8, HRD.out.off HG.out (by rw [HHQ.out]; exact HNX.out) (by omega) hp0, rfl, HD6.out, (Kp.of HB2.out).trans HK6.out⟩
        · have HWR := Lib.hid (fun w5 (hd : DkAt w5 b x c E) => write_ok b x c E (1 + nx * 32 + k) (fillT (pieceT s k)) w5 hd HEL.out HRD.out.2.2.2.1 HEW.out (fillT_size (pieceT_size s k)) hp0 HRD.out.2.1 (by rw [HRD.out.1.1]; omega))
          rw [show ((1 + nx * 32 + k : Nat) : Int) = 1 + (nx : Int) * 32 + (k : Int) by omega] at HWR
          go_region_with (first | (go_at_call 25; refine (first_any (nx : Int) _ (by omega)).mono ?_; rintro e w5 ⟨rfl, h'⟩; subst w5) | (go_at_call 28; refine (filled_any (pieceT s k) _ (pieceT_size s k)).mono ?_; rintro e w5 ⟨rfl, hb5⟩; have HB5 := Lib.hid ((kbelow_dN (Below.refl wr.heap.size wr) 1).trans hb5); have z5 := (HB5.out.cell (p := ⟨w1.heap.size + 1, 0, none⟩) (by simp; omega)).trans z0; have s5 := (HB5.out.cell (p := ⟨q, 0, none⟩) HSR.out.lt).trans hs0; have HD5 := Lib.hid (HDE.out.below HB5.out); clear hb5) | (go_at_call 48; refine (HWR.out _ HD5.out).mono ?_; rintro e w6 ⟨rfl, hd6, hk6⟩; have HD6 := Lib.hid hd6; have HK6 := Lib.hid ((HKE.out.trans (Kp.of HB5.out)).trans hk6); clear hd6 hk6))
          all_goals go_wp2_with fail
          all_goals go_roundw
          all_goals first
            | exact ⟨k + 1, _, by omega, by go_num, HRD.out.step (by omega), HD6.out, HK6.out⟩
            | (simp [intOf]; omega)
      · have h6 : (s.size : Int) < ((k : Int) + 1) * 64 := by omega
        have h7 : (k : Int) * 64 ≤ (s.size : Int) := by omega
        have HPE : Hid (s.extract (k * 64) s.size = pieceT s k) := Lib.hid (piece_ext rfl (by omega) (by omega))
        clear hml
        go_wp2_with fail
        rw [HPE.out]
        by_cases hp0 : E.pow = 0
        · have HWR := Lib.hid (fun w5 (hd : DkAt w5 b x c E) => write_off b x c E (1 + (nx : Int) * 32 + (k : Int)) (fillT (pieceT s k)) w5 hd HEL.out HRD.out.2.2.2.1 HEW.out (fillT_size (pieceT_size s k)) hp0)
          go_region_with (first | (go_at_call 25; refine (first_any (nx : Int) _ (by omega)).mono ?_; rintro e w5 ⟨rfl, h'⟩; subst w5) | (go_at_call 28; refine (filled_any (pieceT s k) _ (pieceT_size s k)).mono ?_; rintro e w5 ⟨rfl, hb5⟩; have HB5 := Lib.hid ((kbelow_dN (Below.refl wr.heap.size wr) 1).trans hb5); have z5 := (HB5.out.cell (p := ⟨w1.heap.size + 1, 0, none⟩) (by simp; omega)).trans z0; have s5 := (HB5.out.cell (p := ⟨q, 0, none⟩) HSR.out.lt).trans hs0; have HD5 := Lib.hid (HDE.out.below HB5.out); clear hb5) | (go_at_call 48; refine (HWR.out _ HD5.out).mono ?_; rintro e w6 ⟨rfl, hd6, hk6⟩; have HD6 := Lib.hid hd6; have HK6 := Lib.hid ((HKE.out.trans (Kp.of HB5.out)).trans hk6); clear hd6 hk6))
          all_goals go_wp2_with fail
          all_goals go_ret
          all_goals exact ⟨{ E with off := true }, 8, HRD.out.off HG.out (by rw [HHQ.out]; exact HNX.out) (by omega) hp0, rfl, HD6.out, (Kp.of HB2.out).trans HK6.out⟩
        · have HWR := Lib.hid (fun w5 (hd : DkAt w5 b x c E) => write_ok b x c E (1 + nx * 32 + k) (fillT (pieceT s k)) w5 hd HEL.out HRD.out.2.2.2.1 HEW.out (fillT_size (pieceT_size s k)) hp0 HRD.out.2.1 (by rw [HRD.out.1.1]; omega))
          rw [show ((1 + nx * 32 + k : Nat) : Int) = 1 + (nx : Int) * 32 + (k : Int) by omega] at HWR
          go_region_with (first | (go_at_call 25; refine (first_any (nx : Int) _ (by omega)).mono ?_; rintro e w5 ⟨rfl, h'⟩; subst w5) | (go_at_call 28; refine (filled_any (pieceT s k) _ (pieceT_size s k)).mono ?_; rintro e w5 ⟨rfl, hb5⟩; have HB5 := Lib.hid ((kbelow_dN (Below.refl wr.heap.size wr) 1).trans hb5); have z5 := (HB5.out.cell (p := ⟨w1.heap.size + 1, 0, none⟩) (by simp; omega)).trans z0; have s5 := (HB5.out.cell (p := ⟨q, 0, none⟩) HSR.out.lt).trans hs0; have HD5 := Lib.hid (HDE.out.below HB5.out); clear hb5) | (go_at_call 48; refine (HWR.out _ HD5.out).mono ?_; rintro e w6 ⟨rfl, hd6, hk6⟩; have HD6 := Lib.hid hd6; have HK6 := Lib.hid ((HKE.out.trans (Kp.of HB5.out)).trans hk6); clear hd6 hk6))
          all_goals go_wp2_with fail
          all_goals go_roundw
          all_goals first
            | exact ⟨k + 1, _, by omega, by go_num, HRD.out.step (by omega), HD6.out, HK6.out⟩
            | (simp [intOf]; omega)
    · obtain rfl : k = m := by omega
      have hltB : decide ((k : Int) < (k : Int)) = false := decide_eq_false (by omega)
      have HEL : Hid (E.secs.length ≤ 100000) := Lib.hid (by rw [HRD.out.1.1]; exact HG.out.1.2)
      have HEW : Hid (0 ≤ E.wrt ∧ E.wrt ≤ 9000000000000000000) := Lib.hid (by have := HRD.out.2.2.1; have := HP.out.2; omega)
      go_wp2_with fail
      by_cases hp0 : E.pow = 0
      · have HWR := Lib.hid (fun w5 (hd : DkAt w5 b x c E) => write_off b x c E 0 (hdT nx s.size) w5 hd HEL.out HRD.out.2.2.2.1 HEW.out hdT_size hp0)
        go_region_with (first | (go_at_call 29; refine (sector_any nx s.size _ (by omega) (by omega)).mono ?_; rintro e w5 ⟨rfl, hb5⟩; have HB5 := Lib.hid ((kbelow_dN (Below.refl wr.heap.size wr) 1).trans hb5); have s5 := (HB5.out.cell (p := ⟨q, 0, none⟩) HSR.out.lt).trans hs0; have HD5 := Lib.hid (HDE.out.below HB5.out); clear hb5) | (go_at_call 48; refine (HWR.out _ HD5.out).mono ?_; rintro e w6 ⟨rfl, hd6, hk6⟩; have HD6 := Lib.hid hd6; have HK6 := Lib.hid ((HKE.out.trans (Kp.of HB5.out)).trans hk6); clear hd6 hk6))
        all_goals go_wp2_with fail
        all_goals go_ret
        all_goals exact ⟨{ E with off := true }, 8, HRD.out.off HG.out (by rw [HHQ.out]; exact HNX.out) (by omega) hp0, rfl, HD6.out, (Kp.of HB2.out).trans HK6.out⟩
      · have HWR := Lib.hid (fun w5 (hd : DkAt w5 b x c E) => write_ok b x c E 0 (hdT nx s.size) w5 hd HEL.out HRD.out.2.2.2.1 HEW.out hdT_size hp0 HRD.out.2.1 (by rw [HRD.out.1.1]; omega))
        have HDN : Hid (RdIs D nx s ((s.size + 63) / 64) E) := Lib.hid (by rw [← HM.out]; exact HRD.out)
        go_region_with (first | (go_at_call 29; refine (sector_any nx s.size _ (by omega) (by omega)).mono ?_; rintro e w5 ⟨rfl, hb5⟩; have HB5 := Lib.hid ((kbelow_dN (Below.refl wr.heap.size wr) 1).trans hb5); have s5 := (HB5.out.cell (p := ⟨q, 0, none⟩) HSR.out.lt).trans hs0; have HD5 := Lib.hid (HDE.out.below HB5.out); clear hb5) | (go_at_call 48; refine (HWR.out _ HD5.out).mono ?_; rintro e w6 ⟨rfl, hd6, hk6⟩; have HD6 := Lib.hid hd6; have HK6 := Lib.hid ((HKE.out.trans (Kp.of HB5.out)).trans hk6); clear hd6 hk6))
        all_goals go_wp2_with fail
        all_goals go_ret
        all_goals exact ⟨_, 0, HDN.out.done HG.out hn1 hsz, rfl, HD6.out, (Kp.of HB2.out).trans HK6.out⟩
end Go.Proofs.Ytdnngcibmkdhhaa
