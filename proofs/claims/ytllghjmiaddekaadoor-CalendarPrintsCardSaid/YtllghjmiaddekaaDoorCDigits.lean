/-
  Promise B2: walks of the reference's Digits and DayText.
-/
import Derived.Test.YtllghjmiaddekaaDoorCRefC
namespace Go.Proofs.YtllghjmiaddekaaDoor
open Go.RowKit Go.Maps

theorem dig_toNat (m : Nat) (h : m < 10) : ((dig m).toNat : Int) = 48 + (m : Int) := by
  unfold dig
  rw [UInt8.toNat_ofNat']
  omega
theorem conv_one (m : Nat) (hm : m < 10) (w : World) :
    (convert 66 9 (.slice (some ⟨w.heap.size, 0, none⟩) 1 1)).run Tryd.prog (w.alloc (.cells #[.int .u8 (48 + (m : Int))] 5)) = .ok (.string ⟨#[dig m]⟩) (w.alloc (.cells #[.int .u8 (48 + (m : Int))] 5)) := by
  have := run_convert_bytes_back (P := Tryd.prog) (w.alloc (.cells #[.int .u8 (48 + (m : Int))] 5)) 66 9 5 ⟨w.heap.size, 0, none⟩ 1 [dig m] Tryd.underlying66 Tryd.underlying5 Tryd.underlying9 (fun j hj => by
    match j, hj with
    | 0, _ =>
      rw [Addr.add_lit, Nat.zero_add, World.cell?_alloc_at (w := w) _ _ _ _ rfl]
      simp [dig_toNat m hm])
  exact this

set_option maxHeartbeats 1000000 in
theorem digits_small (n : Int) (w : World) (h0 : 0 ≤ n) (hn : n < 10) : Calls Tryd.prog 47 #[.int .i64 n] w fun e w' => ∃ s : ByteArray, e = .returned (.string s) ∧ Hid (s.data.toList = Lib.decDigits n.toNat) ∧ s.size ≤ 1 ∧ Below w.heap.size w w' := by
  obtain ⟨m, rfl⟩ := Int.eq_ofNat_of_zero_le h0
  have hm : m < 10 := by omega
  have hcv := conv_one m hm
  have HD : Hid (Lib.decDigits m = [dig m]) := Lib.decDigits_one hm
  go_enter Tryd.func47, Tryd.ntmps47
  go_wp2_with fail
  go_ret
  refine ⟨_, rfl, ?_, ?_, (Below.refl _ _).alloc (Nat.le_refl _) _⟩
  · unfold Hid; rw [Int.toNat_natCast, HD.out]
  · exact Nat.le_refl _

theorem decDigits_len (m : Nat) : (Lib.decDigits m).length ≤ m + 1 := by
  induction m using Nat.strongRecOn with
  | _ m ih =>
    by_cases h : m < 10
    · rw [Lib.decDigits_one h]; simp
    · rw [Lib.decDigits, dif_neg h]
      have := ih (m / 10) (by omega)
      simp
      omega

set_option maxHeartbeats 1000000 in
theorem digits_any (k : Nat) : ∀ (n : Int) (w : World), 0 ≤ n → n ≤ k → n ≤ 1000000000000000000 →
    Calls Tryd.prog 47 #[.int .i64 n] w fun e w' => ∃ s : ByteArray, e = .returned (.string s) ∧ Hid (s.data.toList = Lib.decDigits n.toNat) ∧ s.size ≤ 2 * n.toNat + 1 ∧ Below w.heap.size w w' := by
  induction k with
  | zero =>
    intro n w h0 hk _
    refine (digits_small n w h0 (by omega)).mono ?_
    rintro e w' ⟨s, rfl, h1, h2, h3⟩
    exact ⟨s, rfl, h1, by omega, h3⟩
  | succ k ih =>
    intro n w h0 hk hM
    by_cases h10 : n < 10
    · refine (digits_small n w h0 h10).mono ?_
      rintro e w' ⟨s, rfl, h1, h2, h3⟩
      exact ⟨s, rfl, h1, by omega, h3⟩
    · have IH := Lib.hid ih
      clear ih
      have HD : Hid (Lib.decDigits n.toNat = Lib.decDigits (n.toNat / 10) ++ [dig (n.toNat % 10)]) := by
        unfold Hid
        rw [Lib.decDigits, dif_neg (by omega)]
        rfl
      go_enter Tryd.func47, Tryd.ntmps47
      go_wp2_with fail
      refine (IH.out (n / 10) w (by omega) (by omega) (by omega)).mono ?_
      rintro e w1 ⟨s1, rfl, HS1, hs1, hb1⟩
      have HB1 := Lib.hid hb1
      clear hb1
      go_wp2_with fail
      refine (digits_small (n % 10) w1 (by omega) (by omega)).mono ?_
      rintro e w2 ⟨s2, rfl, HS2, hs2, hb2⟩
      have HB2 : Hid (Below w.heap.size w w2) := HB1.out.trans (hb2.mono HB1.out.size)
      clear hb2
      go_wp2_with fail
      go_ret
      refine ⟨_, rfl, ?_, ?_, HB2.out⟩
      · unfold Hid
        rw [ba_append, HS1.out, HS2.out, HD.out, Lib.decDigits_one (i := (n % 10).toNat) (by omega)]
        have e1 : (n / 10).toNat = n.toNat / 10 := by omega
        have e2 : (n % 10).toNat = n.toNat % 10 := by omega
        rw [e1, e2]
        rfl
      · rw [size_toList, ba_append, List.length_append, ← size_toList s1, ← size_toList s2]
        omega


theorem text_end {a b c d' e : ByteArray} {k m d : Nat} (h1 : a.data.toList = Lib.decDigits (2000 + (k : Int)).toNat) (h2 : b.data.toList = Lib.decDigits ((m : Int) / 10).toNat) (h3 : c.data.toList = Lib.decDigits ((m : Int) % 10).toNat) (h4 : d'.data.toList = Lib.decDigits ((d : Int) / 10).toNat) (h5 : e.data.toList = Lib.decDigits ((d : Int) % 10).toNat) (hm : m < 100) (hd : d < 100) :
    (a ++ ⟨#[45]⟩ ++ b ++ c ++ ⟨#[45]⟩ ++ d' ++ e).data.toList = dateL k m (d : Int) := by
  rw [ba_append, ba_append, ba_append, ba_append, ba_append, ba_append, h1, h2, h3, h4, h5]
  rw [Lib.decDigits_one (i := ((m : Int) / 10).toNat) (by omega), Lib.decDigits_one (i := ((m : Int) % 10).toNat) (by omega), Lib.decDigits_one (i := ((d : Int) / 10).toNat) (by omega), Lib.decDigits_one (i := ((d : Int) % 10).toNat) (by omega)]
  unfold dateL
  have e0 : (2000 + (k : Int)).toNat = 2000 + k := by omega
  have e1 : ((m : Int) / 10).toNat = m / 10 := by omega
  have e2 : ((m : Int) % 10).toNat = m % 10 := by omega
  have e3 : ((d : Int) / 10).toNat = d / 10 := by omega
  have e4 : ((d : Int) % 10).toNat = d % 10 := by omega
  rw [e0, e1, e2, e3, e4, Int.toNat_natCast]
  simp [dig]

set_option maxHeartbeats 2000000 in
theorem dayText_ref (n : Int) (w : World) (h : dayB n = true) :
    Calls Tryd.prog 24 #[.int .i64 n] w fun e w' => ∃ (k m : Nat) (d : Int) (s : ByteArray), e = .returned (.string s) ∧ IsCivil n k m d ∧ s.data.toList = dateL k m d ∧ Below w.heap.size w w' := by
  go_enter Tryd.func24, Tryd.ntmps24
  go_wp2_with fail
  refine (civil_ref n _ h).mono ?_
  rintro e w1 ⟨k, m, d, rfl, hc, hb1⟩
  have HC := Lib.hid hc
  obtain ⟨hk, hm1, hm2, hd1, hd2, he⟩ := hc
  have hd3 := (md_bd (2000 + (k : Int)) m).2
  obtain ⟨d, rfl⟩ : ∃ dn : Nat, d = (dn : Int) := ⟨d.toNat, by omega⟩
  have hd4 : d < 100 := by omega
  clear hd1 hd2 hd3 he
  have HB := Lib.hid (hb1.alloc hb1.size (.cells #[.int .i64 (2000 + k), .int .i64 m, .int .i64 d] 23))
  go_wp2_with fail
  have c0 : (w1.alloc (.cells #[.int .i64 (2000 + (k : Int)), .int .i64 (m : Int), .int .i64 (d : Int)] 23)).cell? ⟨w1.heap.size, 0, none⟩ = some (.int .i64 (2000 + (k : Int))) := by simp
  have c1 : (w1.alloc (.cells #[.int .i64 (2000 + (k : Int)), .int .i64 (m : Int), .int .i64 (d : Int)] 23)).cell? ⟨w1.heap.size, 1, none⟩ = some (.int .i64 (m : Int)) := by simp
  have c2 : (w1.alloc (.cells #[.int .i64 (2000 + (k : Int)), .int .i64 (m : Int), .int .i64 (d : Int)] 23)).cell? ⟨w1.heap.size, 2, none⟩ = some (.int .i64 (d : Int)) := by simp
  have hg : w1.heap.size < (w1.alloc (.cells #[.int .i64 (2000 + (k : Int)), .int .i64 (m : Int), .int .i64 (d : Int)] 23)).heap.size := by simp
  generalize (w1.alloc (.cells #[.int .i64 (2000 + (k : Int)), .int .i64 (m : Int), .int .i64 (d : Int)] 23)) = W at *
  generalize w1.heap.size = g at *
  clear hb1
  have ht1 : (m : Int).tmod 10 = (m : Int) % 10 := Int.tmod_eq_emod_of_nonneg (by omega)
  have ht2 : (d : Int).tmod 10 = (d : Int) % 10 := Int.tmod_eq_emod_of_nonneg (by omega)
  have hw1 : IntKind.i64.wrap ((m : Int) / 10) = (m : Int) / 10 := by rw [IntKind.wrap_i64]; omega
  have hw2 : IntKind.i64.wrap ((d : Int) / 10) = (d : Int) / 10 := by rw [IntKind.wrap_i64]; omega
  have hw3 : IntKind.i64.wrap ((m : Int) % 10) = (m : Int) % 10 := by rw [IntKind.wrap_i64]; omega
  have hw4 : IntKind.i64.wrap ((d : Int) % 10) = (d : Int) % 10 := by rw [IntKind.wrap_i64]; omega
  go_region_held3 (fun w' => w'.cell? ⟨g, 0, none⟩ = some (.int .i64 (2000 + (k : Int))) ∧ w'.cell? ⟨g, 1, none⟩ = some (.int .i64 (m : Int)) ∧ w'.cell? ⟨g, 2, none⟩ = some (.int .i64 (d : Int))) (go_keep)
    (first
      | (have := HS4; go_at_call 47; refine (digits_small _ _ ?_ ?_).mono ?_; omega; omega; rintro e w6 ⟨s5, rfl, HS5, hs5, hb⟩
         have HB5 := Lib.hid (HB4.out.trans (hb.mono HB4.out.size)); clear hb
         have a0 : w6.cell? ⟨g, 0, none⟩ = some (.int .i64 (2000 + (k : Int))) := (HB5.out.cell (p := ⟨g, 0, none⟩) hg).trans c0
         have a1 : w6.cell? ⟨g, 1, none⟩ = some (.int .i64 (m : Int)) := (HB5.out.cell (p := ⟨g, 1, none⟩) hg).trans c1
         have a2 : w6.cell? ⟨g, 2, none⟩ = some (.int .i64 (d : Int)) := (HB5.out.cell (p := ⟨g, 2, none⟩) hg).trans c2
         have j6 := join_run (a := s1 ++ ⟨#[45]⟩ ++ s2 ++ s3 ++ ⟨#[45]⟩ ++ s4) (b := s5) (by rw [ByteArray.size_append, ByteArray.size_append, ByteArray.size_append, ByteArray.size_append, ByteArray.size_append, one_size]; omega)
        )
      | (have := HS3; go_at_call 47; refine (digits_small _ _ ?_ ?_).mono ?_; omega; omega; rintro e w5 ⟨s4, rfl, HS4, hs4, hb⟩
         have HB4 := Lib.hid (HB3.out.trans (hb.mono HB3.out.size)); clear hb
         have a0 : w5.cell? ⟨g, 0, none⟩ = some (.int .i64 (2000 + (k : Int))) := (HB4.out.cell (p := ⟨g, 0, none⟩) hg).trans c0
         have a1 : w5.cell? ⟨g, 1, none⟩ = some (.int .i64 (m : Int)) := (HB4.out.cell (p := ⟨g, 1, none⟩) hg).trans c1
         have a2 : w5.cell? ⟨g, 2, none⟩ = some (.int .i64 (d : Int)) := (HB4.out.cell (p := ⟨g, 2, none⟩) hg).trans c2
         have j5 := join_run (a := s1 ++ ⟨#[45]⟩ ++ s2 ++ s3 ++ ⟨#[45]⟩) (b := s4) (by rw [ByteArray.size_append, ByteArray.size_append, ByteArray.size_append, ByteArray.size_append, one_size]; omega)
        )
      | (have := HS2; go_at_call 47; refine (digits_small _ _ ?_ ?_).mono ?_; omega; omega; rintro e w4 ⟨s3, rfl, HS3, hs3, hb⟩
         have HB3 := Lib.hid (HB2.out.trans (hb.mono HB2.out.size)); clear hb
         have a0 : w4.cell? ⟨g, 0, none⟩ = some (.int .i64 (2000 + (k : Int))) := (HB3.out.cell (p := ⟨g, 0, none⟩) hg).trans c0
         have a1 : w4.cell? ⟨g, 1, none⟩ = some (.int .i64 (m : Int)) := (HB3.out.cell (p := ⟨g, 1, none⟩) hg).trans c1
         have a2 : w4.cell? ⟨g, 2, none⟩ = some (.int .i64 (d : Int)) := (HB3.out.cell (p := ⟨g, 2, none⟩) hg).trans c2
         have j3 := join_run (a := s1 ++ ⟨#[45]⟩ ++ s2) (b := s3) (by rw [ByteArray.size_append, ByteArray.size_append, one_size]; omega)
         have j4 := join_run (a := s1 ++ ⟨#[45]⟩ ++ s2 ++ s3) (b := ⟨#[45]⟩) (by rw [ByteArray.size_append, ByteArray.size_append, ByteArray.size_append, one_size]; omega)
        )
      | (have := HS1; go_at_call 47; refine (digits_small _ _ ?_ ?_).mono ?_; omega; omega; rintro e w3 ⟨s2, rfl, HS2, hs2, hb⟩
         have HB2 := Lib.hid (HB1.out.trans (hb.mono HB1.out.size)); clear hb
         have a0 : w3.cell? ⟨g, 0, none⟩ = some (.int .i64 (2000 + (k : Int))) := (HB2.out.cell (p := ⟨g, 0, none⟩) hg).trans c0
         have a1 : w3.cell? ⟨g, 1, none⟩ = some (.int .i64 (m : Int)) := (HB2.out.cell (p := ⟨g, 1, none⟩) hg).trans c1
         have a2 : w3.cell? ⟨g, 2, none⟩ = some (.int .i64 (d : Int)) := (HB2.out.cell (p := ⟨g, 2, none⟩) hg).trans c2
         have j2 := join_run (a := s1 ++ ⟨#[45]⟩) (b := s2) (by rw [ByteArray.size_append, one_size]; omega)
        )
      | (go_at_call 47; refine (digits_any 2199 _ _ ?_ ?_ ?_).mono ?_; omega; omega; omega; rintro e w2 ⟨s1, rfl, HS1, hs1, hb⟩
         have HB1 := Lib.hid (from_drew hb); clear hb
         have a0 : w2.cell? ⟨g, 0, none⟩ = some (.int .i64 (2000 + (k : Int))) := (HB1.out.cell (p := ⟨g, 0, none⟩) hg).trans c0
         have a1 : w2.cell? ⟨g, 1, none⟩ = some (.int .i64 (m : Int)) := (HB1.out.cell (p := ⟨g, 1, none⟩) hg).trans c1
         have a2 : w2.cell? ⟨g, 2, none⟩ = some (.int .i64 (d : Int)) := (HB1.out.cell (p := ⟨g, 2, none⟩) hg).trans c2
         have j1 := join_run (a := s1) (b := ⟨#[45]⟩) (by rw [one_size]; omega)
        ))
  all_goals go_wp2_with fail
  all_goals go_ret
  all_goals exact ⟨k, m, (d : Int), _, rfl, HC.out, text_end HS1.out HS2.out (by first | exact HS3.out | (rw [← ht1]; exact HS3.out)) HS4.out (by first | exact HS5.out | (rw [← ht2]; exact HS5.out)) (by omega) hd4, HB.out.trans (HB5.out.mono HB.out.size)⟩
end Go.Proofs.YtllghjmiaddekaaDoor
