/-
  Promise E1, E2: the walk of number as a whole, and of first.
-/
import Derived.Test.YtgiacemmigjloaaDoorTFirst
namespace Go.Proofs.YtgiacemmigjloaaDoor
open Go.RowKit

theorem number_any (s : ByteArray) (a : Int) (w : World) (hs : s.size ≤ 4000) (h0 : 0 < spanN digB s) (ha : 0 ≤ a) (ha' : a ≤ 4000) (hT : TabE w) :
    Calls Tryd.prog 30 #[.string s, .int .i64 a] w fun e w' => e = outE s a (numO s (spanN digB s)) ∧ Below w.heap.size w w' := by
  have hn := spanN_is digB s
  generalize spanN digB s = n at *
  have hsz : (s.extract 0 n).size ≤ 4000 := by rw [ByteArray.size_extract]; omega
  unfold numO
  rcases span_atoi hn h0 with ⟨u, hu0, hu⟩ | hu
  · have hr := reads_ok hu hsz
    rw [hu]
    dsimp only
    by_cases c1 : 10000000000 < u
    · rw [if_pos c1]
      simpa [outE] using number_great s a n u w hn hr c1
    · rw [if_neg c1]
      by_cases c2 : bt s 0 = 48 ∧ 1 < n
      · rw [if_pos c2]
        simpa [outE] using number_zero s a n u w hn hr (by omega) c2.1 c2.2
      · rw [if_neg c2]
        by_cases z : bt s 0 = 48
        · have hn1 : decide ((1 : Int) < (n : Int)) = false := decide_eq_false (by have : ¬ 1 < n := fun h => c2 ⟨z, h⟩; omega)
          by_cases c3 : bt s n ≠ 46
          · rw [if_pos c3]
            exact number_wholeZ s a n u w hn hr hu0 (by omega) h0 z hn1 c3
          · rw [if_neg c3]
            have hp : bt s n = 46 := by simpa using c3
            have hk := spanN_is digB (s.extract (n + 1) s.size)
            generalize spanN digB (s.extract (n + 1) s.size) = k at *
            by_cases c4 : k < 2
            · rw [if_pos c4]
              exact number_shortZ s a n k u w hn hr hu0 (by omega) h0 z hn1 hp hk c4 ha (by omega)
            · rw [if_neg c4]
              by_cases c5 : 100 * u + (10 * (bt s (n + 1) - 48) + (bt s (n + 2) - 48)) ≤ 1000000000000
              · rw [if_pos c5]
                exact number_pointZ s a n k u w hn hr hu0 (by omega) h0 z hn1 hp hk (by omega) ha (by omega) c5
              · exfalso
                have hn1' : n = 1 := by have : ¬ 1 < n := fun h => c2 ⟨z, h⟩; omega
                subst hn1'
                have hu1 : u = 0 := by
                  have e1 : (s.extract 0 1).data.toList.length = 1 := by rw [← size_toL, ByteArray.size_extract]; have := hn.1; omega
                  have hx : ∀ c ∈ (s.extract 0 1).data.toList, (c.toNat : Int) = 48 := fun c hc => by
                    obtain ⟨j, hj, hb⟩ := mem_bt hc
                    rw [size_toL, e1] at hj
                    obtain rfl : j = 0 := by omega
                    rw [bt_extract s 0 1 0 hn.1 (by omega)] at hb
                    rw [← hb]
                    exact z
                  generalize (s.extract 0 1).data.toList = L at *
                  match L, e1 with
                  | [c], _ =>
                    have hc := hx c (List.mem_cons_self ..)
                    have : c = 48 := UInt8.toNat_inj.1 (by have : c.toNat = 48 := by omega
                                                           rw [this]; rfl)
                    subst this
                    have h2 : Lib.atoiAll [48] = .ok 0 := by decide
                    rw [h2] at hu
                    injection hu with hu
                    omega
                have d1 := of_decide_eq_true (hk.2.1 0 (by omega))
                have d2 := of_decide_eq_true (hk.2.1 1 (by omega))
                rw [bt_suffix] at d1 d2
                simp only [Nat.add_zero] at d1
                have e2 : 1 + 1 + 1 = 1 + 2 := rfl
                rw [e2] at d2
                omega
        · by_cases c3 : bt s n ≠ 46
          · rw [if_pos c3]
            exact number_whole s a n u w hn hr hu0 (by omega) h0 z c3
          · rw [if_neg c3]
            have hp : bt s n = 46 := by simpa using c3
            have hk := spanN_is digB (s.extract (n + 1) s.size)
            generalize spanN digB (s.extract (n + 1) s.size) = k at *
            by_cases c4 : k < 2
            · rw [if_pos c4]
              exact number_short s a n k u w hn hr hu0 (by omega) h0 z hp hk c4 ha (by omega)
            · rw [if_neg c4]
              by_cases c5 : 100 * u + (10 * (bt s (n + 1) - 48) + (bt s (n + 2) - 48)) ≤ 1000000000000
              · rw [if_pos c5]
                exact number_point s a n k u w hn hr hu0 (by omega) h0 z hp hk (by omega) ha (by omega) c5
              · rw [if_neg c5]
                simpa [outE] using number_over s a n k u w hn hr hu0 (by omega) h0 z hp hk (by omega) ha (by omega) (by omega)
  · rw [hu]
    simpa [outE] using number_err s a n w hn hs hu hT
set_option maxRecDepth 100000 in
set_option maxHeartbeats 1000000 in
theorem first_any (s : ByteArray) (a : Int) (w : World) (h0 : 0 < s.size) (hs : s.size ≤ 4000) (ha : 0 ≤ a) (ha' : a ≤ 4000) (hT : TabE w) :
    Calls Tryd.prog 22 #[.string s, .int .i64 a] w fun e w' => e = outE s a (firstO s) ∧ Below w.heap.size w w' := by
  have HT := Lib.hid hT
  have HZ := Lib.hid ((Below.refl w.heap.size w).alloc (Nat.le_refl _) (.cells #[.int .i64 0, .string ByteArray.empty, .int .i64 0, .bool false, .int .i64 0] 32))
  have HX := Lib.hid (TBox.made w 32 0 ByteArray.empty 0 false 0)
  clear hT
  go_enter Tryd.func22, Tryd.ntmps22
  go_wp2_with fail
  refine (letters_any s _).mono ?_
  rintro e w1 ⟨m, rfl, h1, h2⟩
  obtain rfl := spanN_eq h1
  have HB1 := Lib.hid (HZ.out.trans (h2.mono HZ.out.size))
  have HX1 := Lib.hid (HX.out.below h2)
  clear h1 h2
  by_cases hl : 0 < spanN letB s
  · have HO : Hid (firstO s = wordO s (spanN letB s)) := by unfold Hid firstO; rw [if_pos hl]
    have hl' : (0 : Int) < (spanN letB s : Int) := by omega
    go_wp2_with fail
    refine (word_any s a _).mono ?_
    rintro e w2 ⟨rfl, h2⟩
    have HB2 := Lib.hid (HB1.out.trans (h2.mono HB1.out.size))
    have HX2 := Lib.hid (HX1.out.below h2)
    clear h2
    cases ho : wordO s (spanN letB s) with
    | tok k n v p =>
      simp only [outE]
      obtain ⟨⟨c0, c1, c2, c3, c4⟩, z0, z1, z2, z3, z4⟩ := HX2.out
      unfold tokV
      go_wp2_with fail
      refine bodyPost_ret (v := tokV k (s.extract 0 n) v p a) ?_ rfl ⟨by rw [HO.out, ho]; rfl, ?_⟩
      · obtain ⟨⟨e0, e1, e2, e3, e4⟩, -⟩ := HX2.out.put k (s.extract 0 n) v p a
        unfold tput at e0 e1 e2 e3 e4
        simp [results, Tryd.results22, go_sem, e0, e1, e2, e3, e4, tokV]
      · exact ((((HB2.out.setCell (by simp) _).setCell (by simp) _).setCell (by simp) _).setCell (by simp) _).setCell (by simp) _
    | bad e' o =>
      simp only [outE]
      go_wp2_with fail
      exact ⟨rfl, by rw [HO.out, ho]; rfl, HB2.out⟩
  · have hl' : decide ((0 : Int) < (spanN letB s : Int)) = false := decide_eq_false (by omega)
    go_wp2_with fail
    refine (digits_any s _).mono ?_
    rintro e w1' ⟨m, rfl, h1, h2⟩
    obtain rfl := spanN_eq h1
    have HB1' := Lib.hid (HB1.out.trans (h2.mono HB1.out.size))
    have HX1' := Lib.hid (HX1.out.below h2)
    clear h1 h2 HB1 HX1
    have HB1 := HB1'
    have HX1 := HX1'
    clear HB1' HX1'
    by_cases hd : 0 < spanN digB s
    · have HO : Hid (firstO s = numO s (spanN digB s)) := by unfold Hid firstO; rw [if_neg hl, if_pos hd]
      have hd' : (0 : Int) < (spanN digB s : Int) := by omega
      go_wp2_with fail
      refine (number_any s a _ hs hd ha ha' (HT.out.below HB1.out)).mono ?_
      rintro e w2 ⟨rfl, h2⟩
      have HB2 := Lib.hid (HB1.out.trans (h2.mono HB1.out.size))
      have HX2 := Lib.hid (HX1.out.below h2)
      clear h2
      cases ho : numO s (spanN digB s) with
      | tok k n v p =>
        simp only [outE]
        obtain ⟨⟨c0, c1, c2, c3, c4⟩, z0, z1, z2, z3, z4⟩ := HX2.out
        unfold tokV
        go_wp2_with fail
        refine bodyPost_ret (v := tokV k (s.extract 0 n) v p a) ?_ rfl ⟨by rw [HO.out, ho]; rfl, ?_⟩
        · obtain ⟨⟨e0, e1, e2, e3, e4⟩, -⟩ := HX2.out.put k (s.extract 0 n) v p a
          unfold tput at e0 e1 e2 e3 e4
          simp [results, Tryd.results22, go_sem, e0, e1, e2, e3, e4, tokV]
        · exact ((((HB2.out.setCell (by simp) _).setCell (by simp) _).setCell (by simp) _).setCell (by simp) _).setCell (by simp) _
      | bad e' o =>
        simp only [outE]
        go_wp2_with fail
        exact ⟨rfl, by rw [HO.out, ho]; rfl, HB2.out⟩
    · have HO : Hid (firstO s = signO s) := by unfold Hid firstO; rw [if_neg hl, if_neg hd]
      have hd' : decide ((0 : Int) < (spanN digB s : Int)) = false := decide_eq_false (by omega)
      go_wp2_with fail
      refine (sign_any s a _ h0).mono ?_
      rintro e w2 ⟨rfl, h2⟩
      have HB2 := Lib.hid (HB1.out.trans (h2.mono HB1.out.size))
      have HX2 := Lib.hid (HX1.out.below h2)
      clear h2
      cases ho : signO s with
      | tok k n v p =>
        simp only [outE]
        obtain ⟨⟨c0, c1, c2, c3, c4⟩, z0, z1, z2, z3, z4⟩ := HX2.out
        unfold tokV
        go_wp2_with fail
        refine bodyPost_ret (v := tokV k (s.extract 0 n) v p a) ?_ rfl ⟨by rw [HO.out, ho]; rfl, ?_⟩
        · obtain ⟨⟨e0, e1, e2, e3, e4⟩, -⟩ := HX2.out.put k (s.extract 0 n) v p a
          unfold tput at e0 e1 e2 e3 e4
          simp [results, Tryd.results22, go_sem, e0, e1, e2, e3, e4, tokV]
        · exact ((((HB2.out.setCell (by simp) _).setCell (by simp) _).setCell (by simp) _).setCell (by simp) _).setCell (by simp) _
      | bad e' o =>
        simp only [outE]
        go_wp2_with fail
        exact ⟨rfl, by rw [HO.out, ho]; rfl, HB2.out⟩
end Go.Proofs.YtgiacemmigjloaaDoor
