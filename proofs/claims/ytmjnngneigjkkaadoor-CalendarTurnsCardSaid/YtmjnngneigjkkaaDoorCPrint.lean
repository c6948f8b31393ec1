/-
  Promise B2 (printing): the walk of calendar.Print: at every int it returns the printed day, or the error.
-/
import Derived.Test.YtmjnngneigjkkaaDoorCDay
import Derived.Test.YtmjnngneigjkkaaDoorCText
import Derived.Deep.RegionHeld3
import Derived.Laws.Concat
namespace Go.Proofs.YtmjnngneigjkkaaDoor
open Go.RowKit

theorem from_drew {W w2 : World} (h : Below W.drew.heap.size W.drew w2) : Below W.heap.size W w2 := (Below.refl W.heap.size W).drew.trans h
theorem twoDigits_any (x : Nat) (h : x < 100) (w : World) (ht : Tab w) :
    Calls Tryd.prog 46 #[.int .i64 (x : Int)] w fun e w' => ∃ s : ByteArray, e = .returned (.string s) ∧ Hid (s.data.toList = [dig (x / 10), dig (x % 10)]) ∧ s.size ≤ 21 ∧ Below w.heap.size w w' := by
  go_enter Tryd.func46, Tryd.ntmps46
  go_wp2_with fail
  refine (itoa_any _ (by omega) (by omega) _ ht).mono ?_
  rintro e w1 ⟨s1, rfl, HS1, hs1, hb1⟩
  have hsz := size_three (x := x) HS1.out h
  have HD1 : Hid (s1.data.toList.drop 1 = [dig (x / 10), dig (x % 10)]) := hsz.2
  have hs3 : 3 ≤ s1.size := by omega
  have hs3' : s1.size ≤ 3 := by omega
  clear hsz
  have HB1 := Lib.hid hb1
  clear hb1
  go_wp2_with fail
  go_ret
  refine ⟨_, rfl, ?_, ?_, HB1.out⟩
  · unfold Hid; rw [ba_drop, HD1.out]
  · rw [size_toList, ba_drop, HD1.out]; simp

/-- What a day is printed as. -/
def dateL (k m : Nat) (d : Int) : List UInt8 := Lib.decDigits (2000 + k) ++ [45] ++ [dig (m / 10), dig (m % 10)] ++ [45] ++ [dig (d.toNat / 10), dig (d.toNat % 10)]

theorem print_end {a b c : ByteArray} {k m d : Nat} (h1 : a.data.toList = Lib.itoa (2000 + (k : Int))) (h2 : b.data.toList = [dig (m / 10), dig (m % 10)]) (h3 : c.data.toList = [dig (d / 10), dig (d % 10)]) :
    (a ++ ⟨#[45]⟩ ++ b ++ ⟨#[45]⟩ ++ c).data.toList = dateL k m (d : Int) := by
  rw [ba_append, ba_append, ba_append, ba_append, h1, h2, h3]
  rw [show (2000 + (k : Int)) = ((2000 + k : Nat) : Int) from by omega, itoa_nat]
  rfl
theorem one_size : ByteArray.size ⟨#[45]⟩ = 1 := rfl
theorem size_le1 {a : ByteArray} (h : a.size ≤ 21) : a.size + ByteArray.size ⟨#[45]⟩ ≤ 9223372036854775807 := by rw [one_size]; omega
theorem size_le2 {a b : ByteArray} (h : a.size ≤ 21) (k : b.size ≤ 21) : (a ++ ⟨#[45]⟩).size + b.size ≤ 9223372036854775807 := by rw [ByteArray.size_append, one_size]; omega
theorem size_le3 {a b : ByteArray} (h : a.size ≤ 21) (k : b.size ≤ 21) : (a ++ ⟨#[45]⟩ ++ b).size + ByteArray.size ⟨#[45]⟩ ≤ 9223372036854775807 := by rw [ByteArray.size_append, ByteArray.size_append, one_size]; omega
theorem size_le4 {a b c : ByteArray} (h : a.size ≤ 21) (k : b.size ≤ 21) (l : c.size ≤ 21) : (a ++ ⟨#[45]⟩ ++ b ++ ⟨#[45]⟩).size + c.size ≤ 9223372036854775807 := by rw [ByteArray.size_append, ByteArray.size_append, ByteArray.size_append, one_size]; omega
theorem join_run {a b : ByteArray} (h : a.size + b.size ≤ 9223372036854775807) : ∀ w : World, (Op.stringOp .add a b).run Tryd.prog w = .ok (.string (a ++ b)) w := fun w => run_string_add_sum w a b h
set_option maxHeartbeats 1000000 in
theorem print_ok (n : Int) (w : World) (h : dayB n = true) (ht : Tab w) :
    Calls Tryd.prog 23 #[.int .i64 n] w fun e w' => ∃ (k m : Nat) (d : Int) (s : ByteArray), e = .returned (.tuple #[.string s, .int .i64 0]) ∧ IsCivil n k m d ∧ s.data.toList = dateL k m d ∧ Below w.heap.size w w' := by
  have HT := Lib.hid ht
  clear ht
  go_enter Tryd.func23, Tryd.ntmps23
  go_wp2_with fail
  refine (Civil_ok n _ h).mono ?_
  rintro e w1 ⟨k, m, d, rfl, hc, hb1⟩
  have HC := Lib.hid hc
  obtain ⟨hk, hm1, hm2, hd1, hd2, he⟩ := hc
  have hd3 := (md_bd (2000 + (k : Int)) m).2
  obtain ⟨d, rfl⟩ : ∃ dn : Nat, d = (dn : Int) := ⟨d.toNat, by omega⟩
  have hd4 : d < 100 := by omega
  clear hd1 hd2 hd3 he
  have HB := Lib.hid (hb1.alloc hb1.size (.cells #[.int .i64 (2000 + k), .int .i64 m, .int .i64 d] 23))
  go_wp2_with fail
  have c0 : (w1.alloc (.cells #[.int .i64 (2000 + (k : Int)), .int .i64 (m : Int), .int .i64 (d : Int)] 23)).cell? ⟨w1.heap.size, 0, none⟩ = some (.int .i64 (2000 + (k : Int))) := by simp
  have c1 : (w1.alloc (.cells #[.int .i64 (2000 + (k : Int)), .int .i64 (m : Int), .int .i64 (d : Int)] 23)).cell? ⟨w1.heap.size, 1, none⟩ = some (.int .i64 (m : Int)) := by simp
  have c2 : (w1.alloc (.cells #[.int .i64 (2000 + (k : Int)), .int .i64 (m : Int), .int .i64 (d : Int)] 23)).cell? ⟨w1.heap.size, 2, none⟩ = some (.int .i64 (d : Int)) := by simp
  have hg : w1.heap.size < (w1.alloc (.cells #[.int .i64 (2000 + (k : Int)), .int .i64 (m : Int), .int .i64 (d : Int)] 23)).heap.size := by simp
  have HT2 := Lib.hid (HT.out.below HB.out)
  generalize (w1.alloc (.cells #[.int .i64 (2000 + (k : Int)), .int .i64 (m : Int), .int .i64 (d : Int)] 23)) = W at *
  generalize w1.heap.size = g at *
  clear hb1 HT
  go_region_held3 (fun w' => w'.cell? ⟨g, 0, none⟩ = some (.int .i64 (2000 + (k : Int))) ∧ w'.cell? ⟨g, 1, none⟩ = some (.int .i64 (m : Int)) ∧ w'.cell? ⟨g, 2, none⟩ = some (.int .i64 (d : Int))) (go_keep)
    (first
      | (go_at_call 45; refine (itoa_any (2000 + (k : Int)) ?_ ?_ _ ?_).mono ?_; omega; omega; exact HT2.out; rintro e w2 ⟨s1, rfl, HS1, hs1, hb⟩
         have HB2 := Lib.hid (from_drew hb); have HT3 := Lib.hid (HT2.out.below HB2.out); clear hb
         have a0 : w2.cell? ⟨g, 0, none⟩ = some (.int .i64 (2000 + (k : Int))) := (HB2.out.cell (p := ⟨g, 0, none⟩) hg).trans c0
         have a1 : w2.cell? ⟨g, 1, none⟩ = some (.int .i64 (m : Int)) := (HB2.out.cell (p := ⟨g, 1, none⟩) hg).trans c1
         have a2 : w2.cell? ⟨g, 2, none⟩ = some (.int .i64 (d : Int)) := (HB2.out.cell (p := ⟨g, 2, none⟩) hg).trans c2
         have j1 := join_run (size_le1 hs1)
        )
      | (go_at_call 46; refine (twoDigits_any m ?_ _ ?_).mono ?_; omega; exact HT3.out; rintro e w3 ⟨s2, rfl, HS2, hs2, hb⟩
         have HB3 := Lib.hid (HB2.out.trans (hb.mono HB2.out.size)); have HT4 := Lib.hid (HT3.out.below hb); clear hb
         have b0 : w3.cell? ⟨g, 0, none⟩ = some (.int .i64 (2000 + (k : Int))) := (HB3.out.cell (p := ⟨g, 0, none⟩) hg).trans c0
         have b1 : w3.cell? ⟨g, 1, none⟩ = some (.int .i64 (m : Int)) := (HB3.out.cell (p := ⟨g, 1, none⟩) hg).trans c1
         have b2 : w3.cell? ⟨g, 2, none⟩ = some (.int .i64 (d : Int)) := (HB3.out.cell (p := ⟨g, 2, none⟩) hg).trans c2
         have j2 := join_run (size_le2 hs1 hs2)
         have j3 := join_run (size_le3 hs1 hs2)
        )
      | (go_at_call 46; refine (twoDigits_any d ?_ _ ?_).mono ?_; omega; exact HT4.out; rintro e w4 ⟨s3, rfl, HS3, hs3, hb⟩
         have HB4 := Lib.hid (HB3.out.trans (hb.mono HB3.out.size)); clear hb
         have e0 : w4.cell? ⟨g, 0, none⟩ = some (.int .i64 (2000 + (k : Int))) := (HB4.out.cell (p := ⟨g, 0, none⟩) hg).trans c0
         have e1 : w4.cell? ⟨g, 1, none⟩ = some (.int .i64 (m : Int)) := (HB4.out.cell (p := ⟨g, 1, none⟩) hg).trans c1
         have e2 : w4.cell? ⟨g, 2, none⟩ = some (.int .i64 (d : Int)) := (HB4.out.cell (p := ⟨g, 2, none⟩) hg).trans c2
         have j4 := join_run (size_le4 hs1 hs2 hs3)
        ))
  all_goals go_wp2_with fail
  all_goals go_ret2
  all_goals exact ⟨k, m, (d : Int), _, rfl, HC.out, print_end HS1.out HS2.out HS3.out, HB.out.trans (HB4.out.mono HB.out.size)⟩

theorem print_bad (n : Int) (w : World) (h : dayB n = false) :
    Calls Tryd.prog 23 #[.int .i64 n] w fun e w' => e = .returned (.tuple #[.string ⟨#[]⟩, .int .i64 3]) ∧ Below w.heap.size w w' := by
  go_enter Tryd.func23, Tryd.ntmps23
  go_wp2_with fail
  refine (Civil_bad n _ h).mono ?_
  rintro e w1 ⟨rfl, hb1⟩
  have HB := Lib.hid (hb1.alloc hb1.size (.cells #[.int .i64 0, .int .i64 0, .int .i64 0] 23))
  go_wp2_with fail
  go_ret2
  exact ⟨rfl, HB.out⟩
end Go.Proofs.YtmjnngneigjkkaaDoor
