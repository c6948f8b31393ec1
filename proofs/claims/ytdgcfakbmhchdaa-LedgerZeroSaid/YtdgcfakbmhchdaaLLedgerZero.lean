/-
  The walk of the law LedgerZero: it answers true at every input.
-/
import Derived.Test.YtdgcfakbmhchdaaQZero
namespace Go.Proofs.Ytdgcfakbmhchdaa
open Go.RowKit

theorem movE_ok {l : List En} {s : ByteArray} {f t : Int} (x : Int) (h : askE l s f t = 0) : movE l s f t x = x := if_pos h
theorem trE_ok {l : List En} {d : Int} (h : trE l d = 0) : jrE l = 0 ∧ dayB d = true := by
  unfold trE at h
  split at h
  · rename_i h0
    split at h
    · rename_i h1; exact ⟨h0, h1⟩
    · cases h
  · rename_i h0; exact absurd h h0
theorem sumA_bb : ∀ {l : List Am} {b : Int}, (∀ r ∈ l, -b ≤ r.mon ∧ r.mon ≤ b) → -(b * (l.length : Int)) ≤ sumA l ∧ sumA l ≤ b * (l.length : Int)
  | [], b, _ => by simp [sumA]
  | p :: r, b, h => by
    have ih := sumA_bb (l := r) (b := b) fun x hx => h x (by simp [hx])
    have hp := h p (by simp)
    rw [sumA, List.length_cons]
    push_cast
    rw [Int.mul_add, Int.mul_one]
    omega
set_option maxRecDepth 100000 in
set_option maxHeartbeats 4000000 in
theorem walk_ledgerZero (a : Option Addr) (n cap : Nat) (l : List En) {w : World} (hc : CameE w a l) (hn : l.length = n) (_ : n ≤ maxLen) (_ : ∀ j, j < n → (Lit.int .i64 (enth l j).day).wf = true) (d : Int) (_ : (Lit.int .i64 d).wf = true) :
    Calls Try.prog 8 #[.slice a n cap, .int .i64 d] w fun e w' => e = .returned (.bool true) ∧ Go.RowKit.Below w.heap.size w w' := by
  have HC := Lib.hid hc
  have HN := Lib.hid hn
  clear hc hn
  go_enter Try.func8, Try.ntmps8
  go_wp2_with fail
  refine (ledgerBegun_any _).mono ?_
  rintro e w1 ⟨rfl, hb⟩
  have HB1 := Lib.hid hb
  clear hb
  go_wp2_with fail
  refine (Trial_any a n cap l d _ (HC.out.below HB1.out) HN.out).mono ?_
  rintro e w2 ⟨v, rfl, htr, hb⟩
  have HB2 := Lib.hid (HB1.out.trans (hb.mono HB1.out.size))
  have HTR := Lib.hid htr
  clear hb htr HB1
  by_cases h0 : trE l d = 0
  · obtain ⟨L, hams, hlen, hin⟩ := HTR.out.2 h0
    obtain ⟨hj, hd⟩ := trE_ok h0
    obtain ⟨x, c, rfl, hcm⟩ := hin
    have HZERO : Hid (sumA L = 0) := trial_zero hj hams
    have HASK : Hid (∀ i, i < L.length → askE l (anth L i).name 0 d = 0 ∧ sumN (anth L i).name (pst l 0 d) = (anth L i).mon ∧ (anth L i).mon ≠ 0) := fun i hi => trial_ask hj hd hams (anth_mem hi)
    have HUP : Hid (∀ i, i + 1 < L.length → ltS (anth L i).name (anth L (i + 1)).name = true) := fun i hi => by
      have := List.pairwise_iff_getElem.1 hams.2 i (i + 1) (by omega) hi (by omega)
      rw [anth_get (by omega), anth_get hi]
      exact this
    have HSB : Hid (∀ i, i < L.length → -2000000000000000 ≤ (anth L i).mon ∧ (anth L i).mon ≤ 2000000000000000) := fun i hi => by
      have h1 := (trial_ask hj hd hams (anth_mem hi)).2.1
      have h2 := pst_bound hj 0 d
      have h3 := sumN_bd (s := (anth L i).name) (l := pst l 0 d) (fun r hr => by
        obtain ⟨e, he, hx⟩ := pst_mem hr
        have h2 := List.all_eq_true.1 (enE_ok ((jrE_ok hj).2.1 e he)).2.2.2.2.1 _ hx
        unfold asB someB at h2
        simp at h2
        exact h2.2)
      omega
    have HL2 : Hid (L.length ≤ 2000) := Nat.le_trans (len_lists _ _ L (Nat.le_refl _) hams.1) (pst_bound hj 0 d)
    have HCM := Lib.hid (fun h0 => hcm.open rfl h0)
    rw [h0]
    obtain ⟨m, hm⟩ : ∃ m, L.length = m := ⟨_, rfl⟩
    rw [hm] at HASK HUP HSB HL2 HCM hlen ⊢
    have HM := Lib.hid hm
    have hm2 := HL2.out
    clear hm h0 hj hd hcm hams HTR hlen
    go_wp2_with fail
    go_loopw [7, 8] (fun av iv wr => ∃ i : Nat, i ≤ m ∧ av = .int .i64 (sumA (L.take i)) ∧ iv = .int .i64 i ∧ Go.RowKit.Below w2.heap.size w2 wr) (fun _ iv _ => m - (intOf iv).toNat)
    case atStart => exact ⟨0, Nat.zero_le _, rfl, rfl, Below.refl _ _⟩
    case round =>
      obtain ⟨i, hi, rfl, rfl, hb⟩ := hrel
      have HB := Lib.hid hb
      clear hb
      by_cases hlt : i < m
      · have hlt' : (i : Int) < (m : Int) := by omega
        obtain ⟨b, off, rfl, hcell⟩ := HCM.out (by omega)
        have HCELL := Lib.hid hcell
        obtain ⟨x0, x1⟩ := hcell wr HB.out i hlt
        clear hcell
        obtain ⟨ha1, ha2, ha3⟩ := HASK.out i hlt
        obtain ⟨hb1, hb2⟩ := HSB.out i hlt
        have HAL : Hid (sumA (L.take (i + 1)) = sumA (L.take i) + (anth L i).mon) := by unfold Hid; rw [atake_snoc (by rw [HM.out]; exact hlt), sumA_snoc]
        have hsb := sumA_bb (l := L.take i) (b := 2000000000000000) (fun r hr => by
          obtain ⟨j, hj, e⟩ := List.mem_iff_getElem.1 (List.mem_of_mem_take hr)
          have := HSB.out j (by rw [← HM.out]; exact hj)
          rw [anth_get hj, e] at this
          exact this)
        rw [List.length_take, HM.out] at hsb
        have hsb1 : -4000000000000000000 ≤ sumA (L.take i) := by omega
        have hsb2 : sumA (L.take i) ≤ 4000000000000000000 := by omega
        have HUPI : Hid (∀ p, i = p + 1 → ltS (anth L p).name (anth L i).name = true) := fun p hp => by subst hp; exact HUP.out p hlt
        have HBW := Lib.hid (HB2.out.trans (HB.out.mono HB2.out.size))
        have HIO := Lib.hid (io_sum (anth L i).name (pst l 0 d))
        have HBL : Hid (balV l (anth L i).name d = (anth L i).mon) := by unfold Hid balV; rw [if_pos ha1]; exact ha2
        have HMV := Lib.hid (fun w0 hc0 => Moved_any a n cap l (anth L i).name 0 d w0 hc0 HN.out)
        have HBA := Lib.hid (fun w0 hc0 => Balance_any a n cap l (anth L i).name d w0 hc0 HN.out)
        rw [movE_ok _ ha1, movE_ok _ ha1, ha1] at HMV
        rw [HBL.out, ha1] at HBA
        rw [ha2] at HIO
        obtain ⟨nm, hnm⟩ : ∃ z, (anth L i).name = z := ⟨_, rfl⟩
        obtain ⟨mo, hmo⟩ : ∃ z, (anth L i).mon = z := ⟨_, rfl⟩
        rw [hnm] at x0 HUPI HMV HBA HIO
        rw [hmo] at x1 HAL HBA HIO hb1 hb2 ha3
        obtain ⟨I, hI⟩ : ∃ z, inN nm (pst l 0 d) = z := ⟨_, rfl⟩
        obtain ⟨O, hO⟩ : ∃ z, outN nm (pst l 0 d) = z := ⟨_, rfl⟩
        rw [hI, hO] at HMV HIO
        obtain ⟨al, hal⟩ : ∃ z, sumA (L.take i) = z := ⟨_, rfl⟩
        rw [hal] at HAL hsb1 hsb2 ⊢
        have HNM := Lib.hid hnm
        have HMO := Lib.hid hmo
        clear hnm hmo hI hO hal ha1 ha2 HBL hsb
        have hw1 : IntKind.i64.wrap (I - O) = mo := by rw [HIO.out]; exact IntWalk.i64_in _ (by omega)
        have hw2 : IntKind.i64.wrap (al + mo) = al + mo := IntWalk.i64_in _ (by omega)
        have hz1 : (mo == 0) = false := by simpa using ha3
        have hz2 : decide (mo = 0) = false := decide_eq_false ha3
        have hz3 : (mo != mo) = false := by simp
        go_wp2_with (first | (go_at_call 20; refine (HMV.out _ (HC.out.below HBW.out)).mono ?_; rintro e w3 ⟨rfl, hb3⟩; refine Hid.out ?_))
        have HB3 := Lib.hid (HB.out.trans (hb3.mono HB.out.size))
        have HBW3 := Lib.hid (HBW.out.trans (hb3.mono HBW.out.size))
        clear hb3
        obtain ⟨y0, y1⟩ := HCELL.out w3 HB3.out i hlt
        rw [HNM.out] at y0
        refine Lib.hid ?_
        go_wp2_with (first | (go_at_call 21; refine (HBA.out _ (HC.out.below HBW3.out)).mono ?_; rintro e w4 ⟨rfl, hb4⟩; refine Hid.out ?_))
        have HB4 := Lib.hid (HB3.out.trans (hb4.mono HB3.out.size))
        clear hb4 x0 x1 y0 y1 HB3 HBW3 HB HBW HMV HBA HIO
        have HBN : Hid (∀ k, Go.RowKit.Below w2.heap.size w2 (w4.drewN k)) := fun k => HB4.out.trans ⟨rfl, rfl, rfl, Nat.le_refl _, fun _ _ => rfl⟩
        obtain ⟨z0, z1⟩ := HCELL.out w4 HB4.out i hlt
        rw [HNM.out] at z0
        rw [HMO.out] at z1
        refine Lib.hid ?_
        by_cases hi0 : i = 0
        · have hi0' : decide ((0 : Int) < (i : Int)) = false := decide_eq_false (by omega)
          have hi0n : decide (0 < i) = false := decide_eq_false (by omega)
          clear hi0 HUPI
          go_wp2_with fail
          go_quiet (fail)
          go_wp2_with fail
          go_roundw
          case rel => exact ⟨i + 1, by omega, by rw [HAL.out], by go_num, HBN.out _⟩
          case measure => simp [intOf]; omega
        · obtain ⟨p, hp⟩ : ∃ p, i = p + 1 := ⟨i - 1, by omega⟩
          have hlt2 := HUPI.out p hp
          have hpm : p < m := by omega
          obtain ⟨p0, _⟩ := HCELL.out w4 HB4.out p hpm
          have hi0' : decide ((0 : Int) < (i : Int)) = true := decide_eq_true (by omega)
          have hi0n : decide (0 < i) = true := decide_eq_true (by omega)
          have hwp : IntKind.i64.wrap ((i : Int) - 1) = (p : Int) := by rw [show (i : Int) - 1 = (p : Int) from by omega]; exact IntWalk.i64_in _ (by omega)
          have hp0 : (0 : Int) ≤ (p : Int) := by omega
          have hpm' : (p : Int) < (m : Int) := by omega
          obtain ⟨pn, hpn⟩ : ∃ z, (anth L p).name = z := ⟨_, rfl⟩
          rw [hpn] at p0 hlt2
          have hl1 : Op.bytesLess nm.toList pn.toList = false := by
            cases hq : Op.bytesLess nm.toList pn.toList
            · rfl
            · have := ltS_trans hlt2 (show ltS nm pn = true from hq)
              rw [ltS_irrefl] at this
              cases this
          have hl2 : (nm.toList == pn.toList) = false := by
            rw [list_eq_data]
            refine decide_eq_false fun q => ?_
            rw [ba_eq q, ltS_irrefl] at hlt2
            cases hlt2
          have hl3 : (Op.bytesLess nm.toList pn.toList || nm.toList == pn.toList) = false := by rw [hl1, hl2]; rfl
          clear hi0 HUPI hp hpn hlt2
          go_wp2_with fail
          go_quiet (fail)
          go_wp2_with fail
          go_roundw
          case rel => exact ⟨i + 1, by omega, by rw [HAL.out], by go_num, HBN.out _⟩
          case measure => simp [intOf]; omega
      · have him : i = m := by omega
        subst him
        have hnl : decide ((i : Int) < (i : Int)) = false := decide_eq_false (by omega)
        have HZ2 : Hid (sumA (L.take i) = 0) := by unfold Hid; rw [List.take_of_length_le (by rw [HM.out]; exact Nat.le_refl _)]; exact HZERO.out
        rw [HZ2.out]
        go_wp2_with fail
        go_ret
        exact ⟨rfl, HB2.out.trans (HB.out.mono HB2.out.size)⟩
  · have h0' : (trE l d != 0) = true := by simp [h0]
    obtain ⟨cc, hcc⟩ : ∃ c, trE l d = c := ⟨_, rfl⟩
    rw [hcc] at h0' ⊢
    clear hcc h0
    go_wp2_with fail
    go_ret
    exact ⟨rfl, HB2.out⟩
end Go.Proofs.Ytdgcfakbmhchdaa
