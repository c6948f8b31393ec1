/-
  Promise C5: the walk of the reference's SplitParts.
-/
import Derived.Test.YtbbmgainmomafaaPSplit
namespace Go.Proofs.Ytbbmgainmomafaa
open Go.RowKit Mny

set_option maxRecDepth 100000 in
set_option maxHeartbeats 1000000 in
theorem splitParts_ref (T f t : Int) (a : Option Addr) (n cap : Nat) (l : List Int) (w : World) (hc : Came w a l) (hn : l.length = n) (hm : n ≤ maxLen) :
    Calls Try.prog 27 #[.int .i64 T, .agg #[.int .i64 f, .int .i64 t], .slice a n cap] w fun e w' => ∃ v er, e = .returned (.tuple #[v, .int .i64 er]) ∧ SplIs w' w.heap.size T f t l v er ∧ Below w.heap.size w w' := by
  have HC := Lib.hid hc
  have HN := Lib.hid hn
  unfold maxLen at hm
  have HB0 := Lib.hid ((Below.refl w.heap.size w).alloc (Nat.le_refl _) (.cells #[.int .i64 f, .int .i64 t] 29))
  have HX0 := Lib.hid (PBox.made w f t 29)
  clear hc hn
  cases hp : perB f t
  · have HE : Hid (splE T f t l = 3) := if_pos hp
    have HH := Lib.hid (fun w => whole_ref f t w)
    rw [hp] at HH
    clear hp
    go_enter Try.func27, Try.ntmps27
    go_wp2_with fail
    refine (HH.out _).mono ?_
    rintro e w1 ⟨rfl, hb1⟩
    have HB1 := Lib.hid (HB0.out.trans (hb1.mono HB0.out.size))
    clear hb1
    go_wp2_with fail
    go_ret2
    exact ⟨_, _, rfl, .inl ⟨by rw [HE.out]; decide, rfl, HE.out.symm⟩, HB1.out⟩
  · have HH := Lib.hid (fun w => whole_ref f t w)
    have HP := Lib.hid hp
    rw [hp] at HH
    obtain ⟨pf0, pft, pt1⟩ := perB_iff.1 hp
    clear hp
    go_enter Try.func27, Try.ntmps27
    go_wp2_with fail
    refine (HH.out _).mono ?_
    rintro e w1 ⟨rfl, hb1⟩
    have HB1 := Lib.hid (HB0.out.trans (hb1.mono HB0.out.size))
    have HX1 := Lib.hid (HX0.out.below hb1 (by simp))
    clear hb1 HX0 HB0 HH
    obtain ⟨x0, x1⟩ := HX1.out
    by_cases h20 : 20 ≤ n
    · have h20' : (20 : Int) ≤ (n : Int) := by omega
      have HE : Hid (splE T f t l = 2) := by unfold Hid splE; rw [if_neg (by simp [HP.out]), if_pos (by rw [HN.out]; exact h20)]
      go_wp2_with fail
      go_ret2
      exact ⟨_, _, rfl, .inl ⟨by rw [HE.out]; decide, rfl, HE.out.symm⟩, HB1.out⟩
    · have h20B : decide ((20 : Int) ≤ (n : Int)) = false := decide_eq_false (by omega)
      go_wp2_with fail
      clear x0 x1
      go_loopw [8, 9, 10] (fun dv pv iv wr => ∃ k : Nat, k ≤ n ∧ iv = .int .i64 k ∧ pv = .int .i64 (prevD f l k) ∧ cutsTo f t l k ∧ Grow wr (w.heap.size + 1) dv (lensK f l k) ∧ PBox wr w.heap.size f t ∧ Below w.heap.size w wr) (fun _ _ iv _ => n - (intOf iv).toNat)
      case atStart => exact ⟨0, Nat.zero_le _, rfl, rfl, fun j hj => absurd hj (by omega), Grow.nil _ _, HX1.out, HB1.out⟩
      case round =>
        clear HX1 HB1
        obtain ⟨k, hk, rfl, rfl, hct, hgr, hbx, hb⟩ := hrel
        have HCT := Lib.hid hct
        have HG := Lib.hid hgr
        have HX := Lib.hid hbx
        have HB := Lib.hid hb
        obtain ⟨x0, x1⟩ := hbx
        have hpd := prevD_bd (k := k) HP.out hct
        clear hgr hb hct
        have HPD : Hid (prevD f l (k + 1) = nth l k) := rfl
        have HLS := Lib.hid (lensK_succ f l k)
        have HLL := Lib.hid (lensK_length f l k)
        have hsz : w.heap.size + 1 ≤ wr.heap.size := by have := lt_of_cell x0; simp at this; omega
        by_cases hlt : k < n
        · have hlt' : (k : Int) < (n : Int) := by omega
          obtain ⟨b, off, rfl, hat⟩ : ∃ b off, a = some ⟨b, off, none⟩ ∧ At w b off l := by
            rcases HC.out with h | h
            · have := HN.out; omega
            · exact h
          have HAT := Lib.hid hat
          have p0 := (hat.below HB.out hat.1).2 k (by rw [HN.out]; exact hlt)
          have HNO := Lib.hid (fun h => cutB_no (f := f) (t := t) (l := l) hlt h)
          have HCN : Hid (prevD f l k < nth l k ∧ nth l k ≤ t → cutsTo f t l (k + 1)) := fun h j hj => by
            rcases (show j < k ∨ j = k by omega) with e | rfl
            · exact HCT.out j e
            · exact h
          clear hat
          generalize prevD f l k = p at *
          generalize hcc : nth l k = c at *
          have HCC := Lib.hid hcc
          clear hcc
          by_cases hbad : c ≤ p ∨ t < c
          · have HE : Hid (splE T f t l = 4) := by unfold Hid splE; rw [if_neg (by simp [HP.out]), if_neg (by rw [HN.out]; exact h20), if_pos (by rw [HN.out]; exact HNO.out (fun h => by omega))]
            by_cases h1 : c ≤ p
            · have h1B : decide (c ≤ p) = true := decide_eq_true h1
              clear hbad
              go_wp2_with fail
              go_quiet (fail)
              go_wp2_with fail
              go_ret2
              exact ⟨_, _, rfl, .inl ⟨by rw [HE.out]; decide, rfl, HE.out.symm⟩, below_dN HB.out _⟩
            · have h1B : decide (c ≤ p) = false := decide_eq_false h1
              have h2 : t < c := by omega
              have h2B : decide (t < c) = true := decide_eq_true h2
              clear hbad
              go_wp2_with fail
              go_quiet (fail)
              go_wp2_with fail
              go_ret2
              exact ⟨_, _, rfl, .inl ⟨by rw [HE.out]; decide, rfl, HE.out.symm⟩, below_dN HB.out _⟩
          · have h1B : decide (c ≤ p) = false := decide_eq_false (by omega)
            have h2B : decide (t < c) = false := decide_eq_false (by omega)
            have hc1 : p < c := by omega
            have hc2 : c ≤ t := by omega
            clear hbad
            go_wp2_with fail
            go_quiet (fail)
            have HB2 := Lib.hid (below_dN HB.out nq)
            have HG2 : Hid (Grow (wr.drewN nq) (w.heap.size + 1) u8 (lensK f l k)) := HG.out
            have HX2 : Hid (PBox (wr.drewN nq) w.heap.size f t) := HX.out
            have p2 : (wr.drewN nq).cell? ⟨b, off + k, none⟩ = some (.int .i64 c) := p0
            have hsz2 : w.heap.size + 1 ≤ (wr.drewN nq).heap.size := hsz
            clear HB HG HX p0 x0 x1 hsz
            generalize wr.drewN nq = wq at *
            go_wp2_with (at_builtin; refine wpList_app _ rfl _ _ rfl (w.heap.size + 1) _ (lensK f l k) rfl ?hgw ⟨wq.heap.size, 0, none⟩ 1 (c - p) rfl ?hz ?hl ?hB ?_; rotate_right; intro v9 w9 hg9 hgr9 hd9 hs9; refine Hid.out ?_)
            case hgw => exact HG2.out.alloc _
            case hz => simp
            case hl => rw [HLL.out]; omega
            case hB => simp; omega
            have HB9 := Lib.hid ((HB2.out.alloc HB2.out.size _).grown hgr9 (by have := HB2.out.size; simp; omega) (fun j hj => by have := (HG2.out.lt j hj).1; omega))
            have hb19 : Below (w.heap.size + 1) wq w9 := ((Below.refl (w.heap.size + 1) wq).alloc hsz2 _).grown hgr9 (by simp; omega) (fun j hj => (HG2.out.lt j hj).1)
            have HX9 := Lib.hid (HX2.out.below hb19 (by omega))
            have HG9 := Lib.hid hg9
            have p9 := (HAT.out.below HB9.out HAT.out.1).2 k (by rw [HN.out]; exact hlt)
            rw [HCC.out] at p9
            clear hg9 hgr9 hd9 hs9 hb19 p2
            refine Lib.hid ?_
            go_wp2_with fail
            go_roundw
            case rel => exact ⟨k + 1, by omega, by go_num, by rw [HPD.out], HCN.out ⟨hc1, hc2⟩, by rw [HLS.out]; exact HG9.out, HX9.out, HB9.out⟩
            case measure => simp [intOf]; omega
        · obtain rfl : k = n := by omega
          have hlB : decide ((k : Int) < (k : Int)) = false := decide_eq_false (by omega)
          have HLN : Hid (lens f t l = lensK f l k ++ [t + 1 - prevD f l k]) := by
            unfold Hid lens
            rw [HN.out, show t - prevD f l k + 1 = t + 1 - prevD f l k from by omega]
          have HE := Lib.hid (splE_share (T := T) HP.out (by rw [HN.out]; omega) (by rw [HN.out]; exact cutB_iff.2 HCT.out))
          clear HLS HPD
          generalize prevD f l k = p at *
          go_wp2_with (at_builtin; refine wpList_app _ rfl _ _ rfl (w.heap.size + 1) _ (lensK f l k) rfl ?hgw ⟨wr.heap.size, 0, none⟩ 1 (t + 1 - p) rfl ?hz ?hl ?hB ?_; rotate_right; intro v9 w9 hg9 hgr9 hd9 hs9; refine Hid.out ?_)
          case hgw => exact HG.out.alloc _
          case hz => simp
          case hl => rw [HLL.out]; omega
          case hB => simp; omega
          have HB9 := Lib.hid ((HB.out.alloc HB.out.size _).grown hgr9 (by have := HB.out.size; simp; omega) (fun j hj => by have := (HG.out.lt j hj).1; omega))
          obtain ⟨g, c, hv9, hBg, hown⟩ := hg9.own (by simp)
          subst hv9
          have HA9 : Hid (At w9 g 0 (lens f t l)) := by rw [Hid, HLN.out]; exact own_at hown
          rw [List.length_append, HLL.out]
          clear hg9 hgr9 hd9 hs9 hown hBg x0 x1
          refine Lib.hid ?_
          go_wp2_with fail
          refine (shareR_at T g c (k + 1) (lens f t l) w9 (by rw [lens_length, HN.out]) (by omega) (by omega) HA9.out).mono ?_
          rintro e w4 ⟨v, er, rfl, hv, hb4⟩
          have HB4 := Lib.hid (HB9.out.trans (hb4.mono HB9.out.size))
          have HV : Hid (SplIs w4 w.heap.size T f t l v er) := by
            unfold Hid SplIs
            rw [HE.out]
            rcases hv with h | ⟨h1, h2, g4, c4, h3, h4, h5⟩
            · exact .inl h
            · exact .inr ⟨h1, h2, g4, c4, by rw [h3, HN.out], by have := HB9.out.size; omega, h5⟩
          clear hb4 hv
          go_wp2_with fail
          go_ret2
          exact ⟨_, _, rfl, HV.out, HB4.out⟩
end Go.Proofs.Ytbbmgainmomafaa
