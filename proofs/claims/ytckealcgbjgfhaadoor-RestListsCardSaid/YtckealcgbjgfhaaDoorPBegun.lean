/-
  What must be in any case (periodBegun): its walk: it is so.
-/
import Derived.Test.YtckealcgbjgfhaaDoorPAtA
import Derived.Test.YtckealcgbjgfhaaDoorPPro
namespace Go.Proofs.YtckealcgbjgfhaaDoor
open Go.RowKit Go.Maps

theorem civil_five : IsCivil 5 0 1 6 := ⟨by omega, by omega, by omega, by omega, by decide, by decide⟩
theorem at_first {f t e : Int} (h : AtIs 4 5 0 1 f t e) : f = 31 ∧ t = 59 ∧ e = 0 := by
  rcases h with ⟨h, _⟩ | ⟨_, ⟨h, _⟩ | ⟨_, ⟨h, _⟩ | ⟨_, k0, m0, d0, hc, hm⟩ | ⟨h, _⟩⟩⟩
  · exact absurd (by decide) h
  · omega
  · omega
  · obtain ⟨rfl, rfl, rfl⟩ := hc.unique civil_five
    rcases hm with ⟨h, _⟩ | ⟨_, h1, h2, h3⟩
    · omega
    · refine ⟨h1.trans ?_, h2.trans ?_, h3⟩
      · decide
      · decide
  · omega
theorem pro_first {n e : Int} (h : ProIs [] 100 0 9 0 4 1 n e) : n = 50 ∧ e = 0 := by
  rcases h with ⟨h, _⟩ | ⟨_, ⟨h, _⟩ | ⟨_, _, ⟨h, _⟩ | ⟨_, ⟨h, _⟩ | ⟨_, ⟨h, _⟩ | ⟨_, h1, h2⟩⟩⟩⟩⟩
  · exact absurd (.inl rfl) h
  · rcases h with h | h
    · exact absurd h (by decide)
    · exact absurd h (by decide)
  · exact absurd (by decide) h
  · exact absurd h (by decide)
  · omega
  · exact ⟨h1.trans (by decide), h2⟩

set_option maxHeartbeats 1000000 in
theorem begun_any (w : World) : Calls Tryd.prog 5 #[] w fun e w' => e = .returned (.bool true) ∧ Below w.heap.size w w' := by
  go_enter Tryd.func5, Tryd.ntmps5
  go_wp2_with fail
  refine (At_any 4 5 0 1 w).mono ?_
  rintro e w1 ⟨f, t, er, rfl, ha, hb1⟩
  obtain ⟨rfl, rfl, rfl⟩ := at_first ha
  have HB1 := Lib.hid (hb1.alloc hb1.size (.cells #[.int .i64 31, .int .i64 59] 24))
  clear hb1 ha
  go_wp2_with fail
  refine (Prorate_any 100 0 9 0 4 1 none 0 0 [] _ (.inl rfl) rfl (Nat.zero_le _)).mono ?_
  rintro e w2 ⟨n, er, rfl, hp, hb2⟩
  obtain ⟨rfl, rfl⟩ := pro_first hp
  have HB2 := Lib.hid (HB1.out.trans (hb2.mono HB1.out.size))
  have x0 : w2.cell? ⟨w1.heap.size, 0, none⟩ = some (.int .i64 31) := (hb2.cell (p := ⟨w1.heap.size, 0, none⟩) (by simp)).trans (by simp)
  have x1 : w2.cell? ⟨w1.heap.size, 1, none⟩ = some (.int .i64 59) := (hb2.cell (p := ⟨w1.heap.size, 1, none⟩) (by simp)).trans (by simp)
  clear hb2 hp
  go_wp2_with fail
  go_ret
  exact ⟨rfl, HB2.out⟩
end Go.Proofs.YtckealcgbjgfhaaDoor
