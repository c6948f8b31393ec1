/-
  Walk of the reference's Share: at every total and every list of weights it returns the error, or a new row that holds the shares, the same as money.Share.
-/
import Derived.Test.YtbbmgainmomafaaMShareV
import Derived.Test.YtbbmgainmomafaaMGrow
import Derived.Lib.Hide
namespace Go.Proofs.Ytbbmgainmomafaa.Mny
open Go.RowKit

/-- What is exact of the first k shares. -/
def apP (T S : Int) (l : List Int) (k : Nat) : List Int := (List.range k).map fun j => exactP T S (nth l j)
def apR (T S : Int) (l : List Int) (k : Nat) : List Int := (List.range k).map fun j => exactR T S (nth l j)
theorem apP_succ (T S : Int) (l : List Int) (k : Nat) : apP T S l (k + 1) = apP T S l k ++ [exactP T S (nth l k)] := by simp [apP, List.range_succ]
theorem apR_succ (T S : Int) (l : List Int) (k : Nat) : apR T S l (k + 1) = apR T S l k ++ [exactR T S (nth l k)] := by simp [apR, List.range_succ]
theorem apP_length (T S : Int) (l : List Int) (k : Nat) : (apP T S l k).length = k := by simp [apP]
theorem apR_length (T S : Int) (l : List Int) (k : Nat) : (apR T S l k).length = k := by simp [apR]
theorem nth_map_range (f : Nat → Int) (n j : Nat) (h : j < n) : nth ((List.range n).map f) j = f j := by
  simp [nth, List.getD_eq_getElem?_getD, h]
theorem apP_all (T S : Int) (l : List Int) : apP T S l l.length = pTo T S l l.length := by
  apply nth_ext
  · rw [apP_length]; exact (fillTo_length _ _ _).symm
  · intro j hj
    rw [apP_length] at hj
    unfold pTo
    rw [nth_fillTo _ _ _ _ (Nat.le_refl _), if_pos hj]
    exact nth_map_range _ _ _ hj
theorem apR_all (T S : Int) (l : List Int) : apR T S l l.length = rTo T S l l.length := by
  apply nth_ext
  · rw [apR_length]; exact (fillTo_length _ _ _).symm
  · intro j hj
    rw [apR_length] at hj
    unfold rTo
    rw [nth_fillTo _ _ _ _ (Nat.le_refl _), if_pos hj]
    exact nth_map_range _ _ _ hj

theorem shareR_bad1 (T : Int) (a : Option Addr) (l : List Int) (c : Nat) (w : World) (hl : l.length ≤ 9223372036854775807) (h : l.length < 1 ∨ 20 < l.length ∨ T < 0 ∨ 1000000000000 < T) :
    Calls Try.prog 54 #[.int .i64 T, .slice a l.length c] w fun e w' => e = .returned (.tuple #[.slice none 0 0, .int .i64 (shareE T l)]) ∧ w' = w
    := by
  by_cases h1 : l.length < 1
  · have HE : Hid (shareE T l = 2) := by unfold Hid shareE; rw [if_pos (Or.inl h1)]
    generalize l.length = n at *
    have h1' : (n : Int) < 1 := by omega
    go_enter Try.func54, Try.ntmps54
    go_wp2
    go_ret2
    exact ⟨ret_nil HE.out.symm, rfl⟩
  · by_cases h2 : 20 < l.length
    · have HE : Hid (shareE T l = 2) := by unfold Hid shareE; rw [if_pos (Or.inr h2)]
      generalize l.length = n at *
      have h2' : (20 : Int) < (n : Int) := by omega
      go_enter Try.func54, Try.ntmps54
      go_wp2
      go_ret2
      exact ⟨ret_nil HE.out.symm, rfl⟩
    · by_cases h3 : T < 0
      · have HE : Hid (shareE T l = 3) := by unfold Hid shareE; rw [if_neg (by omega), if_pos (Or.inl h3)]
        generalize l.length = n at *
        go_enter Try.func54, Try.ntmps54
        go_wp2
        go_ret2
        exact ⟨ret_nil HE.out.symm, rfl⟩
      · have HE : Hid (shareE T l = 3) := by unfold Hid shareE; rw [if_neg (by omega), if_pos (by omega)]
        have h4 : 1000000000000 < T := by omega
        generalize l.length = n at *
        go_enter Try.func54, Try.ntmps54
        go_wp2
        go_ret2
        exact ⟨ret_nil HE.out.symm, rfl⟩


set_option maxHeartbeats 4000000 in
/-- Where the length and the total are right. -/
theorem shareR_in (T : Int) (b off : Nat) (l : List Int) (c : Nat) (w : World) (h1 : 1 ≤ l.length) (h2 : l.length ≤ 20) (h3 : 0 ≤ T) (h4 : T ≤ 1000000000000) (hat : At w b off l) :
    Calls Try.prog 54 #[.int .i64 T, .slice (some ⟨b, off, none⟩) l.length c] w fun e w' =>
      (shareE T l ≠ 0 ∧ e = .returned (.tuple #[.slice none 0 0, .int .i64 (shareE T l)]) ∧ w' = w) ∨
      (shareE T l = 0 ∧ ∃ g cap, e = .returned (.tuple #[.slice (some ⟨g, 0, none⟩) l.length cap, .int .i64 0]) ∧ Own w' g (shareL T l) ∧ w.heap.size ≤ g ∧ Below w.heap.size w w') := by
  have HE3 : Hid (l.all ratB = false → shareE T l = 3) := fun h => by unfold shareE; rw [if_neg (by omega), if_neg (by omega), if_pos h]
  have HE5 : Hid (l.all ratB = true → sumTo l l.length = 0 → shareE T l = 5) := fun h k => by unfold shareE; rw [if_neg (by omega), if_neg (by omega), if_neg (by simp [h]), if_pos k]
  have HE0 : Hid (l.all ratB = true → sumTo l l.length ≠ 0 → shareE T l = 0) := fun h k => by unfold shareE; rw [if_neg (by omega), if_neg (by omega), if_neg (by simp [h]), if_neg k]
  have HWT : Hid (∀ (S : Int), l.all ratB = true → S = sumTo l l.length → S ≠ 0 → Wts T S l) := by
    intro S hall hS hne
    have hr := all_rate hall
    have hb := sumTo_bd hr l.length
    subst hS
    exact ⟨h3, h4, by omega, by omega, h1, h2, fun j => (hr j).1, fun j => (hr j).2, fun j => by
      by_cases hj : j < l.length
      · exact le_sumTo (fun j => (hr j).1) j _ hj
      · have : nth l j = 0 := by unfold nth; rw [List.getD_eq_getElem?_getD, List.getElem?_eq_none (by omega)]; rfl
        omega⟩
  have HC : Hid (At w b off l) := hat
  have hbw := hat.1
  have HN : Hid ((∀ j, j < l.length → ratB (nth l j) = true) → l.all ratB = true) := all_of_nth
  have HM : Hid (∀ j, j < l.length → ratB (nth l j) = false → l.all ratB = false) := fun j hj h => not_all hj h
  clear hat
  generalize hn : l.length = n at *
  have HLN : Hid (l.length = n) := hn
  clear hn
  have hd1 : decide ((n : Int) < 1) = false := decide_eq_false (by omega)
  have hd2 : decide ((20 : Int) < (n : Int)) = false := decide_eq_false (by omega)
  have hd3 : decide (T < 0) = false := decide_eq_false (by omega)
  have hd4 : decide (1000000000000 < T) = false := decide_eq_false (by omega)
  go_enter Try.func54, Try.ntmps54
  go_wp2
  go_loop [6, 7] (fun s i => ∃ k : Nat, k ≤ n ∧ i = .int .i64 k ∧ s = .int .i64 (sumTo l k) ∧ (0 ≤ sumTo l k ∧ sumTo l k ≤ 1000000 * k) ∧ ∀ j, j < k → ratB (nth l j) = true) (fun _ i => n - (intOf i).toNat)
  case atStart => exact ⟨0, Nat.zero_le _, rfl, rfl, by simp [sumTo], fun j hj => by omega⟩
  case round =>
    obtain ⟨k, hk, rfl, rfl, ⟨hs0, hs1⟩, hall⟩ := hrel
    have HA : Hid (∀ j, j < k → ratB (nth l j) = true) := hall
    clear hall
    by_cases hlt : k < n
    · have hlt' : (k : Int) < (n : Int) := by omega
      have x1 := HC.out.cell (j := k) (by rw [HLN.out]; exact hlt)
      by_cases hx0 : nth l k < 0
      · have hr : ratB (nth l k) = false := decide_eq_false (by omega)
        have HR : Hid (shareE T l = 3) := HE3.out (HM.out k hlt hr)
        clear hr
        go_wp2
        go_ret2
        exact Or.inl ⟨by rw [HR.out]; decide, ret_nil HR.out.symm, rfl⟩
      · by_cases hx1 : 1000000 < nth l k
        · have hr : ratB (nth l k) = false := decide_eq_false (by omega)
          have HR : Hid (shareE T l = 3) := HE3.out (HM.out k hlt hr)
          clear hr
          go_wp2
          go_ret2
          exact Or.inl ⟨by rw [HR.out]; decide, ret_nil HR.out.symm, rfl⟩
        · have HR : Hid (ratB (nth l k) = true) := decide_eq_true (by omega)
          have HS : Hid (sumTo l (k + 1) = sumTo l k + nth l k) := rfl
          go_wp2
          go_round
          case rel =>
            refine ⟨k + 1, by omega, by go_num, rfl, ?_, ?_⟩
            · rw [HS.out]; omega
            · intro j hj
              by_cases e : j = k
              · subst e; exact HR.out
              · exact HA.out j (by omega)
          case measure => simp [intOf]; omega
    · have hkn : k = n := by omega
      subst hkn
      have hall := HN.out HA.out
      by_cases h0 : sumTo l k = 0
      · have HE : Hid (shareE T l = 5) := HE5.out hall h0
        have hb : (sumTo l k == 0) = true := by simp [h0]
        clear h0 hall
        go_wp2
        go_ret2
        exact Or.inl ⟨by rw [HE.out]; decide, ret_nil HE.out.symm, rfl⟩
      · have HE : Hid (shareE T l = 0) := HE0.out hall h0
        have hb : (sumTo l k == 0) = false := by simp [h0]
        have HW : Hid (Wts T (sumTo l k) l) := HWT.out _ hall rfl h0
        have hW := HW.out
        obtain ⟨t0, t1, s0, s1, n0, n1, x0, x1, xs⟩ := hW
        have HX : Hid ((∀ j, 0 ≤ nth l j) ∧ (∀ j, nth l j ≤ 1000000) ∧ (∀ j, nth l j ≤ sumTo l k)) := ⟨x0, x1, xs⟩
        have HSL : Hid (shareL T l = (give (leftTo T (sumTo l k) l k).toNat (apP T (sumTo l k) l k) (apR T (sumTo l k) l k)).1) := by
          unfold Hid shareL
          have hk := HLN.out
          rw [← hk, apP_all, apR_all]
        clear h0 hall HN HA HM HE3 HE5 HE0 HWT x0 x1 xs n0 n1 hs0 hs1
        generalize hS : sumTo l k = S at *
        clear hS
        go_wp2
        go_loopw [8, 9, 10, 11] (fun vo vr left i wr => ∃ m : Nat, m ≤ k ∧ i = .int .i64 m ∧ left = .int .i64 (leftTo T S l m) ∧ Grow wr w.heap.size vo (apP T S l m) ∧ Grow wr w.heap.size vr (apR T S l m) ∧ Apart vo vr ∧ Below w.heap.size w wr)
          (fun _ _ _ i _ => k - (intOf i).toNat)
        case atStart => exact ⟨0, Nat.zero_le _, rfl, rfl, Grow.nil _ _, Grow.nil _ _, .inl rfl, Below.refl _ _⟩
        case round =>
          obtain ⟨m, hm, rfl, rfl, hvo, hvr, hap, hb⟩ := hrel
          have hlb := leftTo_bd HW.out m
          have hlb1 : leftTo T S l m ≤ 1000000000000 := by omega
          have hlb2 : -20000000000000 ≤ leftTo T S l m := by
            have : (m : Int) * T ≤ 20 * 1000000000000 := Int.mul_le_mul (by omega) t1 t0 (by omega)
            omega
          clear hlb
          by_cases hlt : m < k
          · have hlt' : (m : Int) < (k : Int) := by omega
            have hx0 := HX.out.1 m
            have hx1 := HX.out.2.1 m
            have hxs := HX.out.2.2 m
            have HAT : Hid (∀ w', Below w.heap.size w w' → w'.cell? ⟨b, off + m, none⟩ = some (.int .i64 (nth l m))) := fun w' hb' => (HC.out.below hb' hbw).cell (by rw [HLN.out]; exact hlt)
            have c0 := HAT.out wr hb
            have hm0 : 0 ≤ T * nth l m := Int.mul_nonneg t0 hx0
            have hm1 : T * nth l m ≤ 1000000000000000000 := by
              have : T * nth l m ≤ 1000000000000 * 1000000 := Int.mul_le_mul t1 hx1 hx0 (by omega)
              omega
            have hq : 0 ≤ T * nth l m / S ∧ T * nth l m / S ≤ T := exactP_bd (T := T) (S := S) (x := nth l m) t0 s0 hx0 hxs
            obtain ⟨hq0, hq1⟩ := hq
            have HO : Hid (Grow wr w.heap.size u8 (apP T S l m) ∧ Grow wr w.heap.size u9 (apR T S l m) ∧ Apart u8 u9 ∧ Below w.heap.size w wr) := ⟨hvo, hvr, hap, hb⟩
            clear hvo hvr hap hb
            go_wp2_with (at_builtin; refine wpList_app _ rfl _ _ rfl w.heap.size _ (apP T S l m) rfl (HO.out.1.alloc _) ⟨wr.heap.size, 0, none⟩ 1 (T * nth l m / S) rfl ?hz1 ?hl1 ?hB1 ?_; rotate_right; intro v1 w1 ho1 hg1 hd1 hs1; refine Hid.out ?_)
            case hz1 => simp
            case hl1 => rw [apP_length]; omega
            case hB1 => have := HO.out.2.2.2.size; simp; omega
            have hbw1 : Below w.heap.size w w1 := (HO.out.2.2.2.alloc HO.out.2.2.2.size _).grown hg1 (by have := HO.out.2.2.2.size; simp; omega) (fun j hj => (HO.out.1.lt j hj).1)
            have hvr1 : Grow w1 w.heap.size u9 (apR T S l m) := (HO.out.2.1.alloc _).kept hg1 HO.out.2.2.1.symm
            have hap1 : Apart u9 v1 := Apart.app HO.out.2.2.1.symm (HO.out.2.1.alloc _) hd1
            have ho1' : Grow w1 w.heap.size v1 (apP T S l (m + 1)) := by rw [apP_succ]; exact ho1
            clear ho1
            obtain ⟨g1, c1, rfl⟩ := hs1
            rw [apP_length]
            have HO1 : Hid (Grow w1 w.heap.size (.slice (some ⟨g1, 0, none⟩) (m + 1) c1) (apP T S l (m + 1)) ∧ Grow w1 w.heap.size u9 (apR T S l m) ∧ Apart u9 (.slice (some ⟨g1, 0, none⟩) (m + 1) c1) ∧ Below w.heap.size w w1) := by
              rw [apP_length] at ho1' hap1
              exact ⟨ho1', hvr1, hap1, hbw1⟩
            have c0' := HAT.out w1 hbw1
            clear c0 hbw1 hvr1 hap1 ho1' hg1 hd1
            refine Lib.hid ?_
            go_wp2_with (at_builtin; refine wpList_app _ rfl _ _ rfl w.heap.size _ (apR T S l m) rfl (HO1.out.2.1.alloc _) ⟨w1.heap.size, 0, none⟩ 1 (T * nth l m % S) rfl ?hz2 ?hl2 ?hB2 ?_; rotate_right; intro v2 w2 ho2 hg2 hd2 hs2; refine Hid.out ?_)
            case hz2 => simp
            case hl2 => rw [apR_length]; omega
            case hB2 => have := HO1.out.2.2.2.size; simp; omega
            have hbw2 : Below w.heap.size w w2 := (HO1.out.2.2.2.alloc HO1.out.2.2.2.size _).grown hg2 (by have := HO1.out.2.2.2.size; simp; omega) (fun j hj => (HO1.out.2.1.lt j hj).1)
            have hvo2 : Grow w2 w.heap.size (.slice (some ⟨g1, 0, none⟩) (m + 1) c1) (apP T S l (m + 1)) := (HO1.out.1.alloc _).kept hg2 HO1.out.2.2.1.symm
            have hap2 : Apart (.slice (some ⟨g1, 0, none⟩) (m + 1) c1) v2 := Apart.app HO1.out.2.2.1.symm (HO1.out.1.alloc _) hd2
            have ho2' : Grow w2 w.heap.size v2 (apR T S l (m + 1)) := by rw [apR_succ]; exact ho2
            obtain ⟨g2, c2, rfl⟩ := hs2
            rw [apR_length]
            rw [apR_length] at ho2' hap2
            have hcell : w2.cell? ⟨g1, m, none⟩ = some (.int .i64 (T * nth l m / S)) := by
              obtain ⟨g, cc, e, _, hown⟩ := hvo2.own (by rw [apP_length]; omega)
              have hgg : g1 = g := Option.some.inj (congrArg Value.ownBlock e)
              subst hgg
              have := hown.cell (j := m) (by rw [apP_length]; omega)
              rw [this]
              congr 2
              exact nth_map_range (fun j => exactP T S (nth l j)) (m + 1) m (by omega)
            have HO2 : Hid (Grow w2 w.heap.size (.slice (some ⟨g1, 0, none⟩) (m + 1) c1) (apP T S l (m + 1)) ∧ Grow w2 w.heap.size (.slice (some ⟨g2, 0, none⟩) (m + 1) c2) (apR T S l (m + 1)) ∧ Apart (.slice (some ⟨g1, 0, none⟩) (m + 1) c1) (.slice (some ⟨g2, 0, none⟩) (m + 1) c2) ∧ Below w.heap.size w w2) := ⟨hvo2, ho2', hap2, hbw2⟩
            have HLT : Hid (leftTo T S l (m + 1) = leftTo T S l m - T * nth l m / S) := rfl
            clear hbw2 hvo2 hap2 ho2' ho2 hg2 hd2 c0'
            refine Lib.hid ?_
            go_wp2
            go_roundw
            case rel =>
              exact ⟨m + 1, by omega, by go_num, by rw [HLT.out], HO2.out.1, HO2.out.2.1, HO2.out.2.2.1, HO2.out.2.2.2⟩
            case measure => simp [intOf]; omega
          · have hmk : m = k := by omega
            subst hmk
            obtain ⟨g1, c1, rfl, hg1, hp⟩ := hvo.own (by rw [apP_length]; omega)
            obtain ⟨g2, c2, rfl, hg2, hr⟩ := hvr.own (by rw [apR_length]; omega)
            have hne := hap.ne
            rw [apP_length, apR_length]
            have hp0 : ∀ j, 0 ≤ nth (apP T S l m) j ∧ nth (apP T S l m) j ≤ T := by
              intro j
              by_cases hj : j < m
              · have e := nth_map_range (fun j => exactP T S (nth l j)) m j hj
                unfold apP
                rw [e]
                exact exactP_bd t0 s0 (HX.out.1 j) (HX.out.2.2 j)
              · have : nth (apP T S l m) j = 0 := by unfold nth; rw [List.getD_eq_getElem?_getD, List.getElem?_eq_none (by rw [apP_length]; omega)]; rfl
                omega
            have HB : Hid (∀ q j, 0 ≤ nth (give q (apP T S l m) (apR T S l m)).1 j ∧ nth (give q (apP T S l m) (apR T S l m)).1 j ≤ T + (q : Nat)) := fun q => give_bd _ _ hp0 (by rw [apP_length, apR_length]) (by rw [apP_length]; omega) q
            have HL : Hid (∀ q, (give q (apP T S l m) (apR T S l m)).1.length = m ∧ (give q (apP T S l m) (apR T S l m)).2.length = m) := fun q => by
              have := give_length q (apP T S l m) (apR T S l m)
              rw [apP_length, apR_length] at this
              exact this
            clear hp0
            generalize apP T S l m = p at *
            generalize apR T S l m = r at *
            generalize leftTo T S l m = L at *
            have HO : Hid (Own wr g1 p ∧ Own wr g2 r ∧ Below w.heap.size w wr) := ⟨hp, hr, hb⟩
            clear hp hr hb hvo hvr hap
            go_wp2
            go_loopw [10] (fun left wq => ∃ q : Nat, q ≤ L.toNat ∧ left = .int .i64 (L - q) ∧ Own wq g1 (give q p r).1 ∧ Own wq g2 (give q p r).2 ∧ Below w.heap.size w wq)
              (fun left _ => (intOf left).toNat)
            case atStart => exact ⟨0, Nat.zero_le _, by go_num, HO.out.1, HO.out.2.1, HO.out.2.2⟩
            case round =>
              clear HO
              obtain ⟨q, hq, rfl, hp, hr, hb⟩ := hrel
              by_cases hlt : 0 < L - q
              · have hl := HL.out q
                have HFL : Hid (∀ k, k ≤ (give q p r).2.length → fgTo (give q p r).2 k < (give q p r).2.length) := fgTo_lt _ (by omega)
                have hbd := HB.out q (fg (give q p r).2)
                have HS : Hid (give (q + 1) p r = ((give q p r).1.set (fg (give q p r).2) (nth (give q p r).1 (fg (give q p r).2) + 1), (give q p r).2.set (fg (give q p r).2) (-1))) := rfl
                generalize hg1' : (give q p r).1 = p1 at *
                generalize hg2' : (give q p r).2 = r1 at *
                clear hg1' hg2'
                have HO : Hid (Own wr g1 p1 ∧ Own wr g2 r1 ∧ Below w.heap.size w wr) := ⟨hp, hr, hb⟩
                have HL1 : Hid (p1.length = m ∧ r1.length = m) := hl
                have HBD : Hid (0 ≤ nth p1 (fg r1) ∧ nth p1 (fg r1) ≤ T + (q : Nat)) := hbd
                clear hp hr hb hl hbd
                have hltB : decide ((q : Int) < L) = true := decide_eq_true (by omega)
                go_wp2
                go_loopw [12, 13] (fun best i wq => ∃ j : Nat, 1 ≤ j ∧ j ≤ m ∧ i = .int .i64 j ∧ best = .int .i64 (fgTo r1 j : Nat) ∧ ∃ x, wq = wr.drewN x) (fun _ i _ => m - (intOf i).toNat)
                case atStart => exact ⟨1, Nat.le_refl _, by omega, rfl, by simp [fgTo], 0, rfl⟩
                case round =>
                  obtain ⟨j, hj1, hj, rfl, rfl, x, rfl⟩ := hrel
                  have hf := HFL.out j (by rw [HL1.out.2]; exact hj)
                  rw [HL1.out.2] at hf
                  have hs : fgTo r1 (j + 1) = if nth r1 (fgTo r1 j) < nth r1 j then j else fgTo r1 j := rfl
                  generalize hqq : fgTo r1 j = best at *
                  have HQ : Hid (fgTo r1 j = best) := hqq
                  have HSS : Hid (fgTo r1 (j + 1) = if nth r1 best < nth r1 j then j else best) := hs
                  clear hqq hs
                  by_cases hjm : j < m
                  · have hjm' : (j : Int) < (m : Int) := by omega
                    have hf' : (best : Int) < (m : Int) := by omega
                    have y1 := HO.out.2.1.cell (j := j) (by rw [HL1.out.2]; exact hjm)
                    have y2 := HO.out.2.1.cell (j := best) (by rw [HL1.out.2]; exact hf)
                    by_cases hcmp : nth r1 best < nth r1 j
                    · go_wp2
                      go_quiet (fail)
                      go_wp2
                      go_roundw
                      case rel => exact ⟨j + 1, by omega, by omega, by go_num, by rw [HSS.out, if_pos hcmp], _, rfl⟩
                      case measure => simp [intOf]; omega
                    · go_wp2
                      go_quiet (fail)
                      go_wp2
                      go_roundw
                      case rel =>
                        exact ⟨j + 1, by omega, by omega, by go_num, by rw [HSS.out, if_neg (by omega)], _, rfl⟩
                      case measure => simp [intOf]; omega
                  · have hje : j = m := by omega
                    have HFG : Hid (fg r1 = best) := by unfold Hid fg; rw [HL1.out.2, ← hje]; exact HQ.out
                    have hbd := HBD.out
                    rw [HFG.out] at hbd
                    obtain ⟨hbd1, hbd2⟩ := hbd
                    have hf' : (best : Int) < (m : Int) := by omega
                    have y1 := HO.out.1.cell (j := best) (by rw [HL1.out.1]; exact hf)
                    have y2 := HO.out.1.free (j := best) (by rw [HL1.out.1]; exact hf)
                    have y3 := HO.out.2.1.cell (j := best) (by rw [HL1.out.2]; exact hf)
                    have y4 := HO.out.2.1.free (j := best) (by rw [HL1.out.2]; exact hf)
                    have hLb : (q : Int) ≤ 1000000000000 := by omega
                    go_wp2
                    go_roundw
                    case rel =>
                      obtain ⟨hp, hr, hb⟩ := HO.out
                      have hl := HL1.out
                      refine ⟨q + 1, by omega, by go_num, ?_, ?_, ?_⟩
                      · rw [HS.out, HFG.out]; exact (((hp.set (by omega) _).other hne _ _).drewN _)
                      · rw [HS.out, HFG.out]; exact (((hr.other (Ne.symm hne) _ _).set (by omega) _).drewN _)
                      · exact ((hb.setCell (p := ⟨g1, best, none⟩) hg1 _).setCell (p := ⟨g2, best, none⟩) hg2 _).trans ⟨rfl, rfl, rfl, Nat.le_refl _, fun _ _ => rfl⟩
                    case measure => simp [intOf]; omega
              · have hqL : q = L.toNat := by omega
                have HO : Hid (Own wr g1 (give L.toNat p r).1 ∧ Below w.heap.size w wr) := by rw [← hqL]; exact ⟨hp, hb⟩
                clear hp hr hb
                go_wp2
                go_ret2
                refine Or.inr ⟨HE.out, ?_⟩
                exact ⟨g1, ⟨c1, rfl⟩, by rw [HSL.out]; exact HO.out.1, hg1, HO.out.2⟩
end Go.Proofs.Ytbbmgainmomafaa.Mny
