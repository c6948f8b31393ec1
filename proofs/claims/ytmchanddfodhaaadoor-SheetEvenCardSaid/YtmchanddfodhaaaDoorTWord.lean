/-
  Promise E1: words: walks of isWord and of the reference's IsWord.
-/
import Derived.Test.YtmchanddfodhaaaDoorTSpan
import Derived.WalkSpells
import Derived.WalkLawsBesides
import Derived.Outline
namespace Go.Proofs.YtmchanddfodhaaaDoor
open Go.RowKit

def wordsL : List (List UInt8) := [[101, 97, 114, 110], [116, 97, 107, 101], [116, 97, 120], [108, 101, 116], [105, 102], [116, 104, 101, 110], [101, 108, 115, 101], [111, 102], [121, 101, 97, 114], [116, 97, 98, 108, 101], [109, 105, 110], [109, 97, 120]]
def wordB (s : ByteArray) : Bool := decide (s.toList ∈ wordsL)
theorem wordB_no (s : ByteArray) (h0 : s.toList ≠ [101, 97, 114, 110]) (h1 : s.toList ≠ [116, 97, 107, 101]) (h2 : s.toList ≠ [116, 97, 120]) (h3 : s.toList ≠ [108, 101, 116]) (h4 : s.toList ≠ [105, 102]) (h5 : s.toList ≠ [116, 104, 101, 110]) (h6 : s.toList ≠ [101, 108, 115, 101]) (h7 : s.toList ≠ [111, 102]) (h8 : s.toList ≠ [121, 101, 97, 114]) (h9 : s.toList ≠ [116, 97, 98, 108, 101]) (h10 : s.toList ≠ [109, 105, 110]) (h11 : s.toList ≠ [109, 97, 120]) : wordB s = false := by
  unfold wordB wordsL
  refine decide_eq_false fun h => ?_
  simp only [List.mem_cons, List.not_mem_nil, or_false] at h
  rcases h with h | h | h | h | h | h | h | h | h | h | h | h
  · exact h0 h
  · exact h1 h
  · exact h2 h
  · exact h3 h
  · exact h4 h
  · exact h5 h
  · exact h6 h
  · exact h7 h
  · exact h8 h
  · exact h9 h
  · exact h10 h
  · exact h11 h
set_option maxRecDepth 100000 in
set_option maxHeartbeats 2000000 in
theorem isWord_any (s : ByteArray) (w : World) : Calls Tryd.prog 58 #[.string s] w fun e w' => e = .returned (.bool (wordB s)) ∧ w' = w := by
  by_cases h0 : s.toList = [101, 97, 114, 110]
  · have HE : Hid (wordB s = true) := by unfold Hid wordB; rw [h0]; decide
    have hT : (s.toList == [101, 97, 114, 110]) = true := by rw [h0]; decide
    clear h0
    go_enter Tryd.func58, Tryd.ntmps58
    go_wp2
    go_ret
    exact ⟨tret_bool HE.out.symm, rfl⟩
  have d0 : (s.toList == [101, 97, 114, 110]) = false := by simpa using h0
  by_cases h1 : s.toList = [116, 97, 107, 101]
  · have HE : Hid (wordB s = true) := by unfold Hid wordB; rw [h1]; decide
    have hT : (s.toList == [116, 97, 107, 101]) = true := by rw [h1]; decide
    clear h1
    go_enter Tryd.func58, Tryd.ntmps58
    go_wp2
    go_ret
    exact ⟨tret_bool HE.out.symm, rfl⟩
  have d1 : (s.toList == [116, 97, 107, 101]) = false := by simpa using h1
  by_cases h2 : s.toList = [116, 97, 120]
  · have HE : Hid (wordB s = true) := by unfold Hid wordB; rw [h2]; decide
    have hT : (s.toList == [116, 97, 120]) = true := by rw [h2]; decide
    clear h2
    go_enter Tryd.func58, Tryd.ntmps58
    go_wp2
    go_ret
    exact ⟨tret_bool HE.out.symm, rfl⟩
  have d2 : (s.toList == [116, 97, 120]) = false := by simpa using h2
  by_cases h3 : s.toList = [108, 101, 116]
  · have HE : Hid (wordB s = true) := by unfold Hid wordB; rw [h3]; decide
    have hT : (s.toList == [108, 101, 116]) = true := by rw [h3]; decide
    clear h3
    go_enter Tryd.func58, Tryd.ntmps58
    go_wp2
    go_ret
    exact ⟨tret_bool HE.out.symm, rfl⟩
  have d3 : (s.toList == [108, 101, 116]) = false := by simpa using h3
  by_cases h4 : s.toList = [105, 102]
  · have HE : Hid (wordB s = true) := by unfold Hid wordB; rw [h4]; decide
    have hT : (s.toList == [105, 102]) = true := by rw [h4]; decide
    clear h4
    go_enter Tryd.func58, Tryd.ntmps58
    go_wp2
    go_ret
    exact ⟨tret_bool HE.out.symm, rfl⟩
  have d4 : (s.toList == [105, 102]) = false := by simpa using h4
  by_cases h5 : s.toList = [116, 104, 101, 110]
  · have HE : Hid (wordB s = true) := by unfold Hid wordB; rw [h5]; decide
    have hT : (s.toList == [116, 104, 101, 110]) = true := by rw [h5]; decide
    clear h5
    go_enter Tryd.func58, Tryd.ntmps58
    go_wp2
    go_ret
    exact ⟨tret_bool HE.out.symm, rfl⟩
  have d5 : (s.toList == [116, 104, 101, 110]) = false := by simpa using h5
  by_cases h6 : s.toList = [101, 108, 115, 101]
  · have HE : Hid (wordB s = true) := by unfold Hid wordB; rw [h6]; decide
    have hT : (s.toList == [101, 108, 115, 101]) = true := by rw [h6]; decide
    clear h6
    go_enter Tryd.func58, Tryd.ntmps58
    go_wp2
    go_ret
    exact ⟨tret_bool HE.out.symm, rfl⟩
  have d6 : (s.toList == [101, 108, 115, 101]) = false := by simpa using h6
  by_cases h7 : s.toList = [111, 102]
  · have HE : Hid (wordB s = true) := by unfold Hid wordB; rw [h7]; decide
    have hT : (s.toList == [111, 102]) = true := by rw [h7]; decide
    clear h7
    go_enter Tryd.func58, Tryd.ntmps58
    go_wp2
    go_ret
    exact ⟨tret_bool HE.out.symm, rfl⟩
  have d7 : (s.toList == [111, 102]) = false := by simpa using h7
  by_cases h8 : s.toList = [121, 101, 97, 114]
  · have HE : Hid (wordB s = true) := by unfold Hid wordB; rw [h8]; decide
    have hT : (s.toList == [121, 101, 97, 114]) = true := by rw [h8]; decide
    clear h8
    go_enter Tryd.func58, Tryd.ntmps58
    go_wp2
    go_ret
    exact ⟨tret_bool HE.out.symm, rfl⟩
  have d8 : (s.toList == [121, 101, 97, 114]) = false := by simpa using h8
  by_cases h9 : s.toList = [116, 97, 98, 108, 101]
  · have HE : Hid (wordB s = true) := by unfold Hid wordB; rw [h9]; decide
    have hT : (s.toList == [116, 97, 98, 108, 101]) = true := by rw [h9]; decide
    clear h9
    go_enter Tryd.func58, Tryd.ntmps58
    go_wp2
    go_ret
    exact ⟨tret_bool HE.out.symm, rfl⟩
  have d9 : (s.toList == [116, 97, 98, 108, 101]) = false := by simpa using h9
  by_cases h10 : s.toList = [109, 105, 110]
  · have HE : Hid (wordB s = true) := by unfold Hid wordB; rw [h10]; decide
    have hT : (s.toList == [109, 105, 110]) = true := by rw [h10]; decide
    clear h10
    go_enter Tryd.func58, Tryd.ntmps58
    go_wp2
    go_ret
    exact ⟨tret_bool HE.out.symm, rfl⟩
  have d10 : (s.toList == [109, 105, 110]) = false := by simpa using h10
  by_cases h11 : s.toList = [109, 97, 120]
  · have HE : Hid (wordB s = true) := by unfold Hid wordB; rw [h11]; decide
    have hT : (s.toList == [109, 97, 120]) = true := by rw [h11]; decide
    clear h11
    go_enter Tryd.func58, Tryd.ntmps58
    go_wp2
    go_ret
    exact ⟨tret_bool HE.out.symm, rfl⟩
  have d11 : (s.toList == [109, 97, 120]) = false := by simpa using h11
  have HE : Hid (wordB s = false) := wordB_no s h0 h1 h2 h3 h4 h5 h6 h7 h8 h9 h10 h11
  go_enter Tryd.func58, Tryd.ntmps58
  go_wp2
  go_ret
  exact ⟨tret_bool HE.out.symm, rfl⟩
end Go.Proofs.YtmchanddfodhaaaDoor
