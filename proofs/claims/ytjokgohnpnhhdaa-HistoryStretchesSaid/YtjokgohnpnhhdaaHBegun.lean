/-
  What must be in any case (historyBegun): its walk: it is so.
-/
import Derived.Test.YtjokgohnpnhhdaaHPut
import Derived.Test.YtjokgohnpnhhdaaHAt
namespace Go.Proofs.Ytjokgohnpnhhdaa
open Go.RowKit

theorem put_first {w' : World} {v : Value} {er : Int} (h : PutIs w' [] ⟨3, 0, 7, false⟩ v er) : er = 0 ∧ ∃ g cap, v = .slice (some ⟨g, 0, none⟩) 1 cap ∧ RAt w' g 0 [⟨3, 0, 7, false⟩] := by
  rcases h with ⟨h, _⟩ | ⟨_, h, _⟩ | ⟨_, _, h, g, cap, hv, hr⟩
  · exact absurd (by decide) h
  · exact absurd (by decide) h
  · exact ⟨h, g, cap, hv, hr⟩
theorem at_first {v er : Int} {b : Bool} (h : AtIs [⟨3, 0, 7, false⟩] 4 0 v b er) : v = 7 ∧ b = true ∧ er = 0 := by
  have h0 : AtIs [⟨3, 0, 7, false⟩] 4 0 7 true 0 := .inr ⟨by decide, by decide, by decide, rfl⟩
  exact h.unique h0

set_option maxHeartbeats 1000000 in
theorem begun_any (w : World) : Calls Try.prog 9 #[] w fun e w' => e = .returned (.bool true) ∧ Below w.heap.size w w' := by
  go_enter Try.func9, Try.ntmps9
  go_wp2_with fail
  refine (Put_any none 0 0 [] 3 0 7 false w (.inl rfl) rfl (Nat.zero_le _)).mono ?_
  rintro e w1 ⟨x, er, rfl, hp, hb1⟩
  obtain ⟨rfl, g, cap, rfl, hr⟩ := put_first hp
  have HB1 := Lib.hid hb1
  have HR := Lib.hid hr
  clear hb1 hr hp
  go_wp2_with fail
  refine (At_any (some ⟨g, 0, none⟩) 1 cap [⟨3, 0, 7, false⟩] 4 0 w1 (.inr ⟨g, 0, rfl, HR.out⟩) rfl (by unfold maxLen; omega)).mono ?_
  rintro e w2 ⟨v, b, er, rfl, ha, hb2⟩
  obtain ⟨rfl, rfl, rfl⟩ := at_first ha
  have HB2 := Lib.hid (HB1.out.trans (hb2.mono HB1.out.size))
  clear hb2 ha
  go_wp2_with fail
  go_ret
  exact ⟨rfl, HB2.out⟩
end Go.Proofs.Ytjokgohnpnhhdaa
