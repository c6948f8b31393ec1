/-
  The walk of the law LeaveUsed: it answers true at every input.
-/
import Derived.Test.YtlaamfagjpdhgaaLvApp
namespace Go.Proofs.Ytlaamfagjpdhgaa
open Go.RowKit

/-- The day that First answers: so much may be used then. -/
theorem first_use {h r c : Int} {l : List Us} (ok : LvOk h r c l) {f q v : Int} (hf0 : 0 ≤ f) (hf1 : f ≤ 73048) {k : Nat} (hk : nm (dayU f h l l.length) + k ≤ 2400) (hv : v = frstD f h l k) (hq : q ≤ frst f h r c l k) :
    0 ≤ v ∧ v ≤ 73048 ∧ h ≤ v ∧ (∀ j, j < l.length → (unth l j).day ≤ v) ∧ q ≤ (rch r c v (stN h r c l)).2 := by
  obtain ⟨hh0, hh1, _⟩ := lvB_iff.1 ok.lv
  obtain ⟨g1, g2, g3⟩ := dayU_ge (f := f) (h := h) (l := l) l.length
  have g4 : dayU f h l l.length ≤ 73048 := dayU_le hf1 hh1 _ fun j hj => (useB_iff.1 (ok.use j hj)).2.1
  have s1 : (stN h r c l).1 ≤ nm (dayU f h l l.length) := by
    have := stN_1 (h := h) (r := r) (c := c) (l := l) g2 l.length (Nat.le_refl _) g3
    rw [List.take_of_length_le (Nat.le_refl _)] at this
    exact this
  unfold frst at hq
  unfold frstD at hv
  obtain ⟨D, hD⟩ : ∃ D, dayU f h l l.length = D := ⟨_, rfl⟩
  rw [hD] at hq hv hk g1 g2 g3 g4 s1
  clear hD
  by_cases e : k = 0
  · rw [if_pos e] at hv
    subst hv
    subst e
    exact ⟨by omega, g4, g2, g3, hq⟩
  · rw [if_neg e] at hv
    have hlt : nm D + k - 1 < 2400 := by omega
    have hn := nm_fm hlt
    have hD2 : D < fm ((nm D + k - 1 : Nat) : Int) := by
      have h1 := fm_le (a := nm D) (b := nm D + k - 1) (by omega)
      by_cases z : fm ((nm D : Nat) : Int) ≤ D
      · have := (nm_next (d := D) (M := nm D) (nm_le D) g4).1 z
        omega
      · omega
    have hend := fm_lt (a := nm D + k - 1) (b := 2400) hlt
    rw [show fm ((2400 : Nat) : Int) = 73049 from fm_end] at hend
    rw [← hv] at hn hD2 hend
    refine ⟨by omega, by omega, by omega, fun j hj => by have := g3 j hj; omega, ?_⟩
    unfold rch at hq ⊢
    dsimp only at hq ⊢
    rw [hn, show nm D + k - 1 + 1 - (stN h r c l).1 = (nm D - (stN h r c l).1) + k from by omega, pas_add, show (stN h r c l).1 + (nm D - (stN h r c l).1) = nm D from by omega]
    exact hq
theorem pre_all {l : List Us} {d : Int} (h : ∀ j, j < l.length → (unth l j).day ≤ d) : PreOf l d l.length := ⟨Nat.le_refl _, h, fun j a b => by omega⟩
theorem more_pre {l : List Us} {d q : Int} (h : ∀ j, j < l.length → (unth l j).day ≤ d) : ∀ j, j < (l ++ [(⟨d, q⟩ : Us)]).length → (unth (l ++ [(⟨d, q⟩ : Us)]) j).day ≤ d := by
  intro j hj
  unfold unth
  rw [List.getD_eq_getElem?_getD]
  by_cases e : j < l.length
  · rw [List.getElem?_append_left e]
    have := h j e
    unfold unth at this
    rw [List.getD_eq_getElem?_getD] at this
    exact this
  · have : j = l.length := by
      rw [List.length_append] at hj
      simp at hj
      omega
    subst this
    simp
theorem more_had {h r c : Int} {l : List Us} {d q : Int} : hadD h r c (l ++ [(⟨d, q⟩ : Us)]) d (l ++ [(⟨d, q⟩ : Us)]).length = (rch r c d (stN h r c l)).2 - q := by
  unfold hadD
  rw [List.take_of_length_le (Nat.le_refl _), stN_snoc]
  unfold uss rch
  dsimp only
  rw [show nm d - max (stN h r c l).1 (nm d) = 0 from by omega]
  rfl
theorem all_had {h r c : Int} {l : List Us} {d : Int} : hadD h r c l d l.length = (rch r c d (stN h r c l)).2 := by
  unfold hadD
  rw [List.take_of_length_le (Nat.le_refl _)]
set_option maxRecDepth 100000 in
set_option maxHeartbeats 4000000 in
theorem walk_leaveUsed (h r c : Int) (_ : (Lit.int .i64 h).wf = true) (_ : (Lit.int .i64 r).wf = true) (_ : (Lit.int .i64 c).wf = true) (a : Option Addr) (n cap : Nat) (l : List Us) {w : World} (hc : CameU w a l) (hn : l.length = n) (hm : n ≤ maxLen) (f : Int) (_ : (Lit.int .i64 f).wf = true) (q : Int) (_ : (Lit.int .i64 q).wf = true) :
    Calls Try.prog 13 #[.agg #[.int .i64 h, .int .i64 r, .int .i64 c], .slice a n cap, .int .i64 f, .int .i64 q] w fun e w' => e = .returned (.bool true) ∧ Below w.heap.size w w' := by
  have hm' : n ≤ 9223372036854775807 := by unfold maxLen at hm; omega
  have HC := Lib.hid hc
  have HN := Lib.hid hn
  have HM := Lib.hid hm
  clear hc hn hm
  have HB0 := Lib.hid (lbelow_box w (.cells #[.int .i64 h, .int .i64 r, .int .i64 c] 55))
  have HL0 := Lib.hid (LBox.made w h r c 55)
  have hs0 : (w.alloc (.cells #[.int .i64 h, .int .i64 r, .int .i64 c] 55)).heap.size = w.heap.size + 1 := by simp
  go_enter Try.func13, Try.ntmps13
  go_wp2_with (first | (go_at_call 33; refine (leaveBegun_any _).mono ?_; rintro e w1 ⟨rfl, hb1⟩; refine Hid.out ?_))
  have HB1 := Lib.hid (HB0.out.trans (hb1.mono (by simp)))
  have HL1 := Lib.hid (HL0.out.below hb1 (by simp))
  have hs1 : w.heap.size + 1 ≤ w1.heap.size := (by have := hb1.size; rw [hs0] at this; exact this)
  clear hb1 HB0 HL0 hs0
  refine Lib.hid ?_
  obtain ⟨k0, k1, k2⟩ := HL1.out
  go_wp2_with (first | (go_at_call 36; refine (First_any h r c a n cap l f q _ (HC.out.below HB1.out) HN.out HM.out).mono ?_; rintro e w2 ⟨⟨v, er, rfl, hfi⟩, hb2⟩; refine Hid.out ?_))
  have HFI := Lib.hid hfi
  have HB2 := Lib.hid (HB1.out.trans (hb2.mono HB1.out.size))
  have HL2 := Lib.hid (HL1.out.below hb2 hs1)
  have hs2 : w.heap.size + 1 ≤ w2.heap.size := Nat.le_trans hs1 hb2.size
  clear hb2 hfi k0 k1 k2 HB1 HL1 hs1
  refine Lib.hid ?_
  by_cases her : er = 0
  · subst her
    by_cases h100 : n = 100
    · have hE : ((n : Int) == 100) = true := by simp [h100]
      go_wp2_with fail
      go_ret
      exact ⟨rfl, HB2.out⟩
    · have hE : ((n : Int) == 100) = false := by simp; omega
      have hE2 : decide ((n : Int) = 100) = false := decide_eq_false (by omega)
      have HFI2 : Hid (∃ k, LvOk h r c l ∧ dayB f = true ∧ usedB q = true ∧ nm (dayU f h l l.length) + k ≤ 2400 ∧ v = frstD f h l k ∧ q ≤ frst f h r c l k) := by
        rcases HFI.out with ⟨_, h2⟩ | ⟨h1, h2, h3, ⟨_, k, h4, h5, h6, _⟩ | ⟨h4, _⟩⟩
        · exact absurd rfl h2
        · exact ⟨k, h1, h2, h3, h4, h5, h6⟩
        · cases h4
      obtain ⟨k, ok, hdf, hus, hk1, hk2, hk3⟩ := HFI2.out
      obtain ⟨hf0, hf1⟩ : 0 ≤ f ∧ f ≤ 73048 := of_decide_eq_true hdf
      obtain ⟨hq0, hq1⟩ := usedB_iff.1 hus
      obtain ⟨v0, v1, v2, v3, v4⟩ := first_use ok hf0 hf1 hk1 hk2 hk3
      have hlen : n < 100 := by have := ok.len; rw [HN.out] at this; omega
      have HOK := Lib.hid ok
      have HOKM : Hid (LvOk h r c (l ++ [(⟨v, q⟩ : Us)])) := more_ok ok (useB_iff.2 ⟨v0, v1, v2, hq0, hq1⟩) (by rw [HN.out]; exact hlen) v3 v4
      have HP1 : Hid (PreOf l v l.length) := pre_all v3
      have HP2 : Hid (PreOf (l ++ [(⟨v, q⟩ : Us)]) v (l ++ [(⟨v, q⟩ : Us)]).length) := pre_all (more_pre v3)
      have HD1 : Hid (hadD h r c l v l.length = (rch r c v (stN h r c l)).2) := all_had
      have HD2 : Hid (hadD h r c (l ++ [(⟨v, q⟩ : Us)]) v (l ++ [(⟨v, q⟩ : Us)]).length = (rch r c v (stN h r c l)).2 - q) := more_had
      have HDO : Hid (dofB h v = true) := dofB_iff.2 ⟨v0, v1, v2⟩
      clear ok hdf hus hk1 hk2 hk3 v3 v4 HFI HFI2 h100 k
      obtain ⟨X, hX⟩ : ∃ X, (rch r c v (stN h r c l)).2 = X := ⟨_, rfl⟩
      rw [hX] at HD1 HD2
      clear hX
      obtain ⟨L, hL⟩ : ∃ L, l ++ [(⟨v, q⟩ : Us)] = L := ⟨_, rfl⟩
      have HLN : Hid (L.length = n + 1) := by unfold Hid; rw [← hL, List.length_append, HN.out]; rfl
      rw [hL] at HOKM HP2 HD2
      have HLE := Lib.hid hL
      clear hL
      have HG0 := Lib.hid (GrowU.made w2 (B := w2.heap.size) (Nat.le_refl _))
      have HX0 := Lib.hid (HB2.out.alloc HB2.out.size (.cells #[] 64))
      have HZ0 : Hid (w2.heap.size ≤ (w2.alloc (.cells #[] 64)).heap.size) := Lib.hid (by simp)
      go_wp2_with (first
        | (have := HG1; at_builtin; refine wpList_app_us _ rfl _ _ rfl w2.heap.size _ l rfl (HG1.out.alloc _) (some ⟨w3.heap.size, 0, none⟩) 1 1 [(⟨v, q⟩ : Us)] rfl (.inr ⟨w3.heap.size, 0, rfl, ?_⟩) rfl (by rw [HN.out]; omega) (by have := HZ1.out; simp; omega) ?_; refine ⟨by simp, fun j hj => ?_⟩; obtain rfl : j = 0 := (by simpa using hj); refine ⟨?_, ?_⟩ <;> simp [unth]; intro v5 w5 hgr5 _ hbel5; refine Hid.out ?_)
        | (at_builtin; refine wpList_app_us _ rfl _ _ rfl w2.heap.size (.slice (some ⟨w2.heap.size, 0, none⟩) 0 0) [] rfl HG0.out a n cap l rfl (HC.out.below HX0.out) HN.out (by simp; omega) HZ0.out ?_; intro v4 w3 hgr4 hgw4 hbel4
           have HG1 := Lib.hid hgr4
           rw [List.nil_append] at HG1
           have HX1 := Lib.hid (HX0.out.trans (hbel4.mono HB2.out.size))
           have HZ1 := Lib.hid (Nat.le_trans HZ0.out hgw4.size)
           have HY1 := Lib.hid (((Below.refl w2.heap.size w2).alloc (Nat.le_refl _) (.cells #[] 64)).trans hbel4)
           clear hgr4 hbel4 hgw4))
      have HBX := Lib.hid (lbelow_box w3 (.cells #[.int .i64 v, .int .i64 q] 64))
      have HY5 := Lib.hid ((HY1.out.trans (HBX.out.mono (by have := HY1.out.size; omega))).trans hbel5)
      have HX5 := Lib.hid (HB2.out.trans (HY5.out.mono HB2.out.size))
      have HL5 := Lib.hid (HL2.out.below HY5.out hs2)
      have hs5 : w.heap.size + 1 ≤ w5.heap.size := Nat.le_trans hs2 HY5.out.size
      rw [HLE.out] at hgr5
      obtain ⟨x5, c5, rfl, hc5⟩ := hgr5.slice
      have HC5 := Lib.hid hc5
      rw [HLN.out]
      obtain ⟨k0, k1, k2⟩ := HL5.out
      clear hgr5 hbel5 hc5 HG0 HG1 HX0 HX1 HZ0 HZ1 HY1 HBX HL2 hs2
      refine Lib.hid ?_
      go_wp2_with (first | (go_at_call 34; refine (Had_any h r c a n cap l v _ (HC.out.below HX5.out) HN.out HM.out).mono ?_; rintro e w6 ⟨⟨A, er, rfl, hh⟩, hb6⟩; refine Hid.out ?_))
      obtain rfl : er = 0 := hh.1.2 ⟨HOK.out, HDO.out⟩
      have HA : Hid (A = X) := by unfold Hid; rw [hh.2 rfl _ HP1.out]; exact HD1.out
      have HB6 := Lib.hid (HX5.out.trans (hb6.mono HX5.out.size))
      have HL6 := Lib.hid (HL5.out.below hb6 hs5)
      have HC6 := Lib.hid (HC5.out.below hb6)
      have hs6 : w.heap.size + 1 ≤ w6.heap.size := Nat.le_trans hs5 hb6.size
      clear hh hb6 k0 k1 k2 HL5 HC5
      obtain ⟨k0, k1, k2⟩ := HL6.out
      have hn1 : n + 1 ≤ maxLen := by unfold maxLen; omega
      refine Lib.hid ?_
      go_wp2_with (first | (go_at_call 34; refine (Had_any h r c x5 (n + 1) c5 L v _ HC6.out HLN.out hn1).mono ?_; rintro e w7 ⟨⟨B, er, rfl, hh⟩, hb7⟩; refine Hid.out ?_))
      obtain rfl : er = 0 := hh.1.2 ⟨HOKM.out, HDO.out⟩
      have HBV : Hid (B = X - q) := by unfold Hid; rw [hh.2 rfl _ HP2.out]; exact HD2.out
      have HB7 := Lib.hid (HB6.out.trans (hb7.mono HB6.out.size))
      have HL7 := Lib.hid (HL6.out.below hb7 hs6)
      have HC7 := Lib.hid (HC6.out.below hb7)
      clear hh hb7 k0 k1 k2 HL6 HC6
      obtain ⟨k0, k1, k2⟩ := HL7.out
      have hw1 : IntKind.i64.wrap (A - B) = q := by rw [HA.out, HBV.out, show X - (X - q) = q from by omega]; exact IntWalk.i64_in _ (by omega)
      have hqq : (q == q) = true := by simp
      refine Lib.hid ?_
      go_wp2_with (first | (go_at_call 37; refine (Check_any h r c x5 (n + 1) c5 L _ HC7.out HLN.out hn1).mono ?_; rintro e w8 ⟨⟨er, rfl, hh⟩, hb8⟩; obtain rfl : er = 0 := hh.2 HOKM.out; have HB8 := Lib.hid (HB7.out.trans (hb8.mono HB7.out.size)); clear hh hb8))
      go_ret
      exact ⟨rfl, HB8.out⟩
  · have hne : (er != 0) = true := by simpa using her
    go_wp2_with fail
    go_ret
    exact ⟨rfl, HB2.out⟩
end Go.Proofs.Ytlaamfagjpdhgaa
