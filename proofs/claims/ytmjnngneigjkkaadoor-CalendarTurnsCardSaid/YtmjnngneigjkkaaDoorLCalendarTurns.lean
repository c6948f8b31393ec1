/-
  The walk of the law CalendarTurns: it answers true at every int, in every world that holds the library's table.
-/
import Derived.Test.YtmjnngneigjkkaaDoorLCalendarReads
import Derived.Test.YtmjnngneigjkkaaDoorCPrint
namespace Go.Proofs.YtmjnngneigjkkaaDoor
open Go.RowKit Go.Maps

theorem cumN_month {y : Int} {m : Nat} (h : 1 ≤ m) : cumN y m = cumN y (m - 1) + md y m := by
  have : m = (m - 1) + 1 := by omega
  rw [this, cumN, Nat.add_sub_cancel]
  congr 2
/-- The date behind a date. -/
theorem next_day {n : Int} {k m k' m' : Nat} {d d' : Int} (h : IsCivil n k m d) (h' : IsCivil (n + 1) k' m' d') :
    (d' = d + 1 ∧ m' = m ∧ k' = k) ∨ (d' = 1 ∧ m' = m + 1 ∧ k' = k) ∨ (d' = 1 ∧ m' = 1 ∧ k' = k + 1 ∧ m = 12 ∧ d = 31) := by
  have hm := cumN_month (y := 2000 + (k : Int)) h.m1
  have he := h.eq
  by_cases e1 : d + 1 ≤ md (2000 + k) m
  · obtain ⟨a, b, c⟩ := h'.unique ⟨h.k1, h.m1, h.m2, by have := h.d1; omega, e1, by omega⟩
    exact .inl ⟨c, b, a⟩
  · have hd : d = md (2000 + k) m := by have := h.d2; omega
    by_cases e2 : m < 12
    · obtain ⟨a, b, c⟩ := h'.unique (k' := k) (m' := m + 1) (d' := 1) ⟨h.k1, by omega, by omega, by omega, by have := md_bd (2000 + (k : Int)) ((m + 1 : Nat) : Int); omega, by rw [Nat.add_sub_cancel]; omega⟩
      exact .inr (.inl ⟨c, b, a⟩)
    · obtain rfl : m = 12 := by have := h.m2; omega
      have hy : cumN (2000 + (k : Int)) 12 = yd (2000 + k) := cumN_12 _
      have e3 : ys (k + 1) = ys k + yd (2000 + k) := rfl
      have hn : n + 1 = ys (k + 1) := by omega
      have hk : k + 1 < 200 := by
        have h1 := h'.in
        have h2 := ys_mono (show k' + 1 ≤ 200 by have := h'.k1; omega)
        by_cases e : k + 1 < 200
        · exact e
        · have : k + 1 = 200 := by have := h.k1; omega
          rw [this] at hn
          omega
      obtain ⟨a, b, c⟩ := h'.unique (k' := k + 1) (m' := 1) (d' := 1) ⟨hk, by omega, by omega, by omega, by have := md_bd (2000 + ((k + 1 : Nat) : Int)) ((1 : Nat) : Int); omega, by
        show n + 1 = ys (k + 1) + cumN _ 0 + 1 - 1
        simp only [cumN]
        omega⟩
      exact .inr (.inr ⟨c, b, a, rfl, by rw [hd]; rfl⟩)
theorem four_digits (x : Nat) (h0 : 1000 ≤ x) (h : x < 10000) : Lib.decDigits x = [dig (x / 1000), dig (x / 100 % 10), dig (x / 10 % 10), dig (x % 10)] := by
  rw [Lib.decDigits, dif_neg (by omega), Lib.decDigits, dif_neg (by omega), Lib.decDigits, dif_neg (by omega), Lib.decDigits, dif_pos (by omega)]
  have h1 : x / 10 / 10 / 10 = x / 1000 := by omega
  have h2 : x / 10 / 10 % 10 = x / 100 % 10 := by omega
  simp [dig, h1, h2]
theorem dig_nat (m : Nat) (h : m < 10) : ((dig m).toNat : Int) = 48 + (m : Int) := by
  unfold dig
  rw [UInt8.toNat_ofNat']
  omega
theorem bt_list {s : ByteArray} {L : List UInt8} (h : s.data.toList = L) {j : Nat} {x : UInt8} (hx : L[j]? = some x) : bt s j = (x.toNat : Int) := by
  have hj : j < s.size := by
    rw [size_toList, h]
    by_cases e : j < L.length
    · exact e
    · rw [List.getElem?_eq_none (by omega)] at hx; cases hx
  rw [bt_in hj]
  have : s[j] = x := by
    have h1 : s.data.toList[j]? = some x := by rw [h]; exact hx
    rw [Array.getElem?_toList] at h1
    have h2 : s.data[j]? = some (s.data[j]'hj) := Array.getElem?_eq_getElem hj
    rw [h2] at h1
    exact Option.some.inj h1
  rw [this]
/-- What is printed is read as it was. -/
theorem read_text {n : Int} {k m : Nat} {d : Int} {s : ByteArray} (h : IsCivil n k m d) (hs : s.data.toList = dateL k m d) : ReadIs s n 0 0 := by
  obtain ⟨hd, hn⟩ := date_of_civil h
  have hk := h.k1
  have hm1 := h.m1
  have hm2 := h.m2
  have hd1 := h.d1
  have hd2 := h.d2
  have hmd := md_bd (2000 + (k : Int)) m
  obtain ⟨q, rfl⟩ : ∃ q : Nat, d = (q : Int) := ⟨d.toNat, by omega⟩
  unfold dateL at hs
  rw [four_digits (2000 + k) (by omega) (by omega), Int.toNat_natCast] at hs
  simp only [List.cons_append, List.nil_append] at hs
  have hsz : s.size = 10 := by rw [size_toList, hs]; rfl
  have b0 := bt_list hs (j := 0) rfl
  have b1 := bt_list hs (j := 1) rfl
  have b2 := bt_list hs (j := 2) rfl
  have b3 := bt_list hs (j := 3) rfl
  have b4 := bt_list hs (j := 4) rfl
  have b5 := bt_list hs (j := 5) rfl
  have b6 := bt_list hs (j := 6) rfl
  have b7 := bt_list hs (j := 7) rfl
  have b8 := bt_list hs (j := 8) rfl
  have b9 := bt_list hs (j := 9) rfl
  rw [dig_nat _ (by omega)] at b0 b1 b2 b3 b5 b6 b8 b9
  have y4 : num4 s = 2000 + k := by unfold num4 num2; simp only [Nat.zero_add, show (2 + 1 : Nat) = 3 from rfl]; omega
  have y5 : num2 s 5 = m := by unfold num2; simp only [show (5 + 1 : Nat) = 6 from rfl]; omega
  have y8 : num2 s 8 = (q : Int) := by unfold num2; simp only [show (8 + 1 : Nat) = 9 from rfl]; omega
  refine .inr ⟨fun i hi => ?_, .inr ⟨hsz, rfl, .inr ⟨by rw [y4, y5, y8]; exact hd, by rw [y4, y5, y8]; exact hn.symm, rfl⟩⟩⟩
  have dg : ∀ j x, j < 10 → j ≠ 4 → j ≠ 7 → x < 10 → bt s j = 48 + ((x : Nat) : Int) → okA s j = true := fun j x hj h4 h7 hx hb => by
    rw [okA_digB h4 h7]
    unfold digB
    rw [hb]
    exact decide_eq_true (by omega)
  have ds : ∀ j, (j = 4 ∨ j = 7) → bt s j = 45 → okA s j = true := fun j hj hb => by
    unfold okA
    rw [hb, show pt j = 45 from if_pos hj]
    have : j < s.size := by omega
    simp [this]
    rfl
  have : i = 0 ∨ i = 1 ∨ i = 2 ∨ i = 3 ∨ i = 4 ∨ i = 5 ∨ i = 6 ∨ i = 7 ∨ i = 8 ∨ i = 9 := by omega
  rcases this with rfl | rfl | rfl | rfl | rfl | rfl | rfl | rfl | rfl | rfl
  · exact dg 0 _ (by omega) (by omega) (by omega) (by omega) b0
  · exact dg 1 _ (by omega) (by omega) (by omega) (by omega) b1
  · exact dg 2 _ (by omega) (by omega) (by omega) (by omega) b2
  · exact dg 3 _ (by omega) (by omega) (by omega) (by omega) b3
  · exact ds 4 (.inl rfl) b4
  · exact dg 5 _ (by omega) (by omega) (by omega) (by omega) b5
  · exact dg 6 _ (by omega) (by omega) (by omega) (by omega) b6
  · exact ds 7 (.inr rfl) b7
  · exact dg 8 _ (by omega) (by omega) (by omega) (by omega) b8
  · exact dg 9 _ (by omega) (by omega) (by omega) (by omega) b9
/-- A date in a box. -/
def DBox (w : World) (g : Nat) (a b c : Int) : Prop := w.cell? ⟨g, 0, none⟩ = some (.int .i64 a) ∧ w.cell? ⟨g, 1, none⟩ = some (.int .i64 b) ∧ w.cell? ⟨g, 2, none⟩ = some (.int .i64 c)
theorem DBox.made (w : World) (a b c : Int) (T : TypeId) : DBox (w.alloc (.cells #[.int .i64 a, .int .i64 b, .int .i64 c] T)) w.heap.size a b c := ⟨by simp, by simp, by simp⟩
theorem DBox.below {w w' : World} {g : Nat} {a b c : Int} (h : DBox w g a b c) (hb : Below w.heap.size w w') : DBox w' g a b c := by
  have hg : g < w.heap.size := lt_of_cell h.1
  exact ⟨(hb.cell (p := ⟨g, 0, none⟩) hg).trans h.1, (hb.cell (p := ⟨g, 1, none⟩) hg).trans h.2.1, (hb.cell (p := ⟨g, 2, none⟩) hg).trans h.2.2⟩
theorem DBox.alloc {w : World} {g : Nat} {a b c : Int} (h : DBox w g a b c) (o : Obj) : DBox (w.alloc o) g a b c := h.below ((Below.refl _ _).alloc (Nat.le_refl _) o)

set_option maxRecDepth 100000 in
set_option maxHeartbeats 1000000 in
theorem walk_calendarTurns (n : Int) (wn : (Lit.int .i64 n).wf = true) (w : World) (ht : Tab w) :
    Calls Tryd.prog 10 #[.int .i64 n] w fun e w' => e = .returned (.bool true) ∧ Below w.heap.size w w' := by
  have HT := Lib.hid ht
  clear ht
  go_enter Tryd.func10, Tryd.ntmps10
  go_wp2_with fail
  refine (begun_any w HT.out).mono ?_
  rintro e w1 ⟨rfl, hb1⟩
  have HB1 := Lib.hid hb1
  clear hb1
  cases hdb : dayB n
  · have HC := Lib.hid (fun w => Civil_bad n w hdb)
    clear hdb
    go_wp2_with fail
    refine (HC.out _).mono ?_
    rintro e w2 ⟨rfl, hb2⟩
    have HB2 := Lib.hid (HB1.out.trans (hb2.mono HB1.out.size))
    clear hb2
    go_wp2_with fail
    go_ret
    exact ⟨rfl, HB2.out.alloc HB2.out.size _⟩
  · have hnn := dayB_iff.1 hdb
    obtain ⟨hn0, hn1⟩ := hnn
    have HC := Lib.hid (fun w => Civil_ok n w hdb)
    have HW := Lib.hid (fun w => Weekday_ok n w hdb)
    have HP := Lib.hid (fun w ht => print_ok n w hdb ht)
    clear hdb
    go_wp2_with fail
    refine (HC.out _).mono ?_
    rintro e w2 ⟨k, m, d, rfl, hciv, hb2⟩
    have HB2 := Lib.hid (HB1.out.trans (hb2.mono HB1.out.size))
    have HCV := Lib.hid hciv
    have HB3 := Lib.hid (HB2.out.alloc HB2.out.size (.cells #[.int .i64 (2000 + (k : Int)), .int .i64 (m : Int), .int .i64 d] 23))
    have HX3 := Lib.hid (DBox.made w2 (2000 + (k : Int)) (m : Int) d 23)
    have HD := Lib.hid (fun w => Day_ok (2000 + (k : Int)) (m : Int) d w (date_of_civil hciv).1)
    rw [(date_of_civil hciv).2] at HD
    obtain ⟨hk1, hm1, hm2, hd1, hd2, hceq⟩ := hciv
    clear hceq
    have hmd := md_bd (2000 + (k : Int)) m
    clear hb2 HB1
    go_wp2_with fail
    refine (HD.out _).mono ?_
    rintro e w4 ⟨rfl, hb4⟩
    have HB4 := Lib.hid (HB3.out.trans (hb4.mono HB3.out.size))
    have HX4 := Lib.hid (HX3.out.below hb4)
    clear hb4 HB3 HX3
    generalize w2.heap.size = g3 at *
    go_wp2_with fail
    refine (HP.out _ (HT.out.below HB4.out)).mono ?_
    rintro e w5 ⟨k2, m2, d2, s, rfl, hciv2, hs, hb5⟩
    have HRT := Lib.hid (read_text hciv2 hs)
    have HB5 := Lib.hid (HB4.out.trans (hb5.mono HB4.out.size))
    have HX5 := Lib.hid (HX4.out.below hb5)
    clear hb5 HB4 HX4 hciv2 hs
    go_wp2_with fail
    refine (Read_any s _).mono ?_
    rintro e w6 ⟨N, E, A, rfl, hr, hb6⟩
    obtain ⟨rfl, rfl, rfl⟩ := HRT.out.unique hr
    have HB6 := Lib.hid (HB5.out.trans (hb6.mono HB5.out.size))
    have HX6 := Lib.hid (HX5.out.below hb6)
    have HX7 := Lib.hid (HX6.out.alloc (.cells #[.int .i64 0, .int .i64 0] 43))
    have HB7 := Lib.hid (HB6.out.alloc HB6.out.size (.cells #[.int .i64 0, .int .i64 0] 43))
    clear hb6 HB5 HX5 hr HRT
    go_wp2_with fail
    refine (HW.out _).mono ?_
    rintro e w7 ⟨rfl, h7⟩
    subst w7
    have f7 : (w6.alloc (.cells #[.int .i64 0, .int .i64 0] 43)).cell? ⟨w6.heap.size, 0, none⟩ = some (.int .i64 0) := by simp
    clear HB6 HX6
    generalize (w6.alloc (.cells #[.int .i64 0, .int .i64 0] 43)) = w8 at *
    generalize w6.heap.size = g9 at *
    have hwk : wkd (n + 1) = (wkd n + 1) % 7 := by unfold wkd; omega
    have HWK := Lib.hid hwk
    have hwk0 : 0 ≤ wkd n := by unfold wkd; omega
    have hwk1 : wkd n ≤ 6 := by unfold wkd; omega
    clear hwk
    generalize wkd n = a at *
    cases hdb2 : dayB (n + 1)
    · obtain rfl : n = 73048 := by
        by_cases e : n + 1 ≤ 73048
        · have : dayB (n + 1) = true := dayB_iff.2 ⟨by omega, e⟩
          rw [this] at hdb2; cases hdb2
        · omega
      have HC2 := Lib.hid (fun w => Civil_bad (73048 + 1) w hdb2)
      clear hdb2 HWK
      go_wp2_with fail
      refine (HC2.out _).mono ?_
      rintro e w9 ⟨rfl, hb9⟩
      have HB9 := Lib.hid (HB7.out.trans (hb9.mono HB7.out.size))
      clear hb9
      go_wp2_with fail
      go_ret
      exact ⟨rfl, HB9.out.alloc HB9.out.size _⟩
    · have HC2 := Lib.hid (fun w => Civil_ok (n + 1) w hdb2)
      have HW2 := Lib.hid (fun w => Weekday_ok (n + 1) w hdb2)
      rw [HWK.out] at HW2
      clear hdb2 HWK
      go_wp2_with fail
      refine (HC2.out _).mono ?_
      rintro e w9 ⟨k', m', d', rfl, hciv', hb9⟩
      have HNX := Lib.hid (next_day HCV.out hciv')
      have HB9 := Lib.hid (HB7.out.trans (hb9.mono HB7.out.size))
      have HX9 := Lib.hid (HX7.out.below hb9)
      have HB10 := Lib.hid (HB9.out.alloc HB9.out.size (.cells #[.int .i64 (2000 + (k' : Int)), .int .i64 (m' : Int), .int .i64 d'] 23))
      have HX10 := Lib.hid (HX9.out.alloc (.cells #[.int .i64 (2000 + (k' : Int)), .int .i64 (m' : Int), .int .i64 d'] 23))
      have HY10 := Lib.hid (DBox.made w9 (2000 + (k' : Int)) (m' : Int) d' 23)
      clear hb9 HB7 HX7 hciv' HB9 HX9 f7
      go_wp2_with fail
      refine (HW2.out _).mono ?_
      rintro e w10 ⟨rfl, h10⟩
      subst w10
      generalize (w9.alloc (.cells #[.int .i64 (2000 + (k' : Int)), .int .i64 (m' : Int), .int .i64 d'] 23)) = w10 at *
      generalize w9.heap.size = g12 at *
      obtain ⟨x0, x1, x2⟩ := HX10.out
      obtain ⟨y0, y1, y2⟩ := HY10.out
      rcases HNX.out with ⟨rfl, rfl, rfl⟩ | ⟨rfl, rfl, rfl⟩ | ⟨rfl, rfl, rfl, rfl, rfl⟩
      · go_wp2_with fail
        go_ret
        exact ⟨cret_bool (by simp), HB10.out⟩
      · have e1 : ((1 : Int) == d + 1) = false := by simp; omega
        go_wp2_with fail
        go_ret
        exact ⟨cret_bool (by simp), HB10.out⟩
      · go_wp2_with fail
        go_ret
        exact ⟨cret_bool (by simp), HB10.out⟩
end Go.Proofs.YtmjnngneigjkkaaDoor
