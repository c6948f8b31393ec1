/-
  sheetBegun answers true; the walk of the law SheetPrints: it answers true at every list and width, in every world that holds the library's table.
-/
import Derived.Test.YtmchanddfodhaaaDoorShRef
namespace Go.Proofs.YtmchanddfodhaaaDoor
open Go.RowKit Mny

theorem feed_two (w : World) :
    (convert 38 9 (.slice (some ⟨w.heap.size + 1, 0, none⟩) 1 1)).run Tryd.prog ((w.alloc (.cells #[.int .u8 10] 5)).alloc (.cells #[.int .u8 10] 5)) = .ok (.string ⟨#[10]⟩) ((w.alloc (.cells #[.int .u8 10] 5)).alloc (.cells #[.int .u8 10] 5)) := by
  have h := conv_feed (w.alloc (.cells #[.int .u8 10] 5))
  have e : (w.alloc (.cells #[.int .u8 10] 5)).heap.size = w.heap.size + 1 := by simp
  rw [e] at h
  exact h
theorem begun_chk : chkE [⟨⟨#[97]⟩, 5⟩] 1 20 = 0 := by decide +kernel
theorem begun_fit : fits (withSum [⟨⟨#[97]⟩, 5⟩] 1) 20 2 = true := by
  unfold fits fits fits fitA dotsA withSum printL
  simp [anth, sumA, sumT, Lib.decDigits, ByteArray.size]
def begT : ByteArray := ⟨#[97, 46, 46, 46, 46, 46, 46, 46, 46, 46, 46, 46, 46, 46, 46, 46, 48, 46, 48, 53, 10, 115, 117, 109, 46, 46, 46, 46, 46, 46, 46, 46, 46, 46, 46, 46, 46, 48, 46, 48, 53, 10]⟩
theorem begun_txt : shT [⟨⟨#[97]⟩, 5⟩] 1 20 = begT ∧ shE [⟨⟨#[97]⟩, 5⟩] 1 20 = 0 := by
  obtain ⟨h1, h2⟩ := shE_ok begun_chk begun_fit
  refine ⟨h2.trans ?_, h1⟩
  refine ba_ext ?_
  unfold sheetL linesL linesL linesL lineL dotsA withSum printL
  simp [anth, sumA, sumT, Lib.decDigits, ByteArray.size, dig, begT, List.replicate]
set_option maxRecDepth 100000 in
set_option maxHeartbeats 1000000 in
theorem sheetBegun_any (w : World) (ht : Tab w) : Calls Tryd.prog 10 #[] w fun e w' => e = .returned (.bool true) ∧ Below w.heap.size w w' := by
  have HT := Lib.hid ht
  clear ht
  have HBX := Lib.hid (kbelow_box w (.cells #[.string ⟨#[97]⟩, .int .i64 5] 45))
  have HC : Hid (CameA (w.alloc (.cells #[.string ⟨#[97]⟩, .int .i64 5] 45)) (some ⟨w.heap.size, 0, none⟩) [⟨⟨#[97]⟩, 5⟩]) := by
    refine .inr ⟨w.heap.size, 0, rfl, by simp, fun j hj => ?_⟩
    obtain rfl : j = 0 := by simpa using hj
    exact (ABox.made w ⟨#[97]⟩ 5).cells
  have HP := Lib.hid (Print_any (some ⟨w.heap.size, 0, none⟩) 1 1 [⟨⟨#[97]⟩, 5⟩] 20 _ (HT.out.below HBX.out) HC.out (fun j hj => by
    obtain rfl : j = 0 := by simpa using hj
    show (1 : Nat) ≤ maxLen
    unfold maxLen
    omega) rfl (by decide))
  rw [begun_txt.1, begun_txt.2] at HP
  have hcf := conv_feed
  have hcf2 := feed_two
  have hj1 : (⟨#[97, 46, 46, 46, 46, 46, 46, 46, 46, 46, 46, 46, 46, 46, 46, 46, 48, 46, 48, 53]⟩ : ByteArray).size + (⟨#[10]⟩ : ByteArray).size ≤ 9223372036854775807 := by decide
  go_enter Tryd.func10, Tryd.ntmps10
  go_wp2_with fail
  refine HP.out.mono ?_
  rintro e w1 ⟨rfl, hb1⟩
  have HB1 := Lib.hid (HBX.out.trans (hb1.mono HBX.out.size))
  have HB2 := Lib.hid ((HB1.out.alloc HB1.out.size (.cells #[.int .u8 10] 5)).alloc (Nat.le_trans HB1.out.size (by simp)) (.cells #[.int .u8 10] 5))
  clear hb1
  go_wp2_with fail
  go_ret
  exact ⟨kret_bool (by decide +kernel), HB2.out⟩
theorem textIs_same (s : ByteArray) (e : Int) (w : World) (h : e ≠ 0 → s = ⟨#[]⟩) : Calls Tryd.prog 11 #[.string s, .int .i64 e, .int .i64 e, .string s] w fun r w' => r = .returned (.bool true) ∧ w' = w := by
  by_cases h0 : e = 0
  · subst h0
    clear h
    go_enter Tryd.func11, Tryd.ntmps11
    go_wp2
    go_ret
    exact ⟨ret_bool (by simp), rfl⟩
  · have hn := h h0
    subst hn
    clear h
    have hb : (e != 0) = true := by simp [h0]
    go_enter Tryd.func11, Tryd.ntmps11
    go_wp2
    go_ret
    exact ⟨ret_bool (by simp), rfl⟩
theorem shT_nil {l : List Am} {n : Nat} {x : Int} (h : shE l n x ≠ 0) : shT l n x = ⟨#[]⟩ := by unfold shT; rw [if_neg h]; rfl
set_option maxRecDepth 100000 in
set_option maxHeartbeats 1000000 in
theorem walk_sheetPrints (a : Option Addr) (n cap : Nat) (l : List Am) (x : Int) (_ : (Lit.int .i64 x).wf = true) (w : World) (hc : CameA w a l) (hf : NamesFit l) (hn : l.length = n) (hm : n ≤ maxLen) (ht : Tab w) :
    Calls Tryd.prog 3 #[.slice a n cap, .int .i64 x] w fun e w' => e = .returned (.bool true) ∧ Below w.heap.size w w' := by
  have HP := Lib.hid (Print_any a n cap l x w ht hc hf hn (by unfold maxLen at hm; omega))
  have HR := Lib.hid (fun w hc => sheetText_ref a n cap l x w hc hf hn hm)
  have HT := Lib.hid ht
  have HC := Lib.hid hc
  have HX := Lib.hid (@shT_nil l n x)
  clear ht hc hf hn hm
  generalize shT l n x = ST at *
  generalize shE l n x = SE at *
  go_enter Tryd.func3, Tryd.ntmps3
  go_wp2_with fail
  refine HP.out.mono ?_
  rintro e w1 ⟨rfl, hb1⟩
  have HB1 := Lib.hid hb1
  clear hb1
  go_wp2_with fail
  refine (HR.out _ (HC.out.below HB1.out)).mono ?_
  rintro e w2 ⟨rfl, hb2⟩
  have HB2 := Lib.hid (HB1.out.trans (hb2.mono HB1.out.size))
  clear hb2
  go_wp2_with fail
  refine (sheetBegun_any _ (HT.out.below HB2.out)).mono ?_
  rintro e w3 ⟨rfl, hb3⟩
  have HB3 := Lib.hid (HB2.out.trans (hb3.mono HB2.out.size))
  clear hb3
  go_wp2_with fail
  refine (textIs_same ST SE _ HX.out).mono ?_
  rintro e w' ⟨rfl, h'⟩
  subst w'
  go_wp2_with fail
  go_ret
  exact ⟨rfl, HB3.out⟩
end Go.Proofs.YtmchanddfodhaaaDoor
