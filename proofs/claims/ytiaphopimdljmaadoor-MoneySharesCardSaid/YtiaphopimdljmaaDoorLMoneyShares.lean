/-
  The walk of the law MoneyShares: it answers true at every total and every list of weights, in every world that holds the library's table.
-/
import Derived.Test.YtiaphopimdljmaaDoorMBegun
import Derived.Test.YtiaphopimdljmaaDoorMShareR
namespace Go.Proofs.YtiaphopimdljmaaDoor
open Go.RowKit

theorem same_none (w : World) : Calls Tryd.prog 30 #[.slice none 0 0, .slice none 0 0] w fun e w' => e = .returned (.bool true) ∧ w' = w := by
  go_enter Tryd.func30, Tryd.ntmps30
  go_wp2
  go_loop [5] (fun i => i = .int .i64 0) (fun _ => 0)
  case atStart => rfl
  case round =>
    subst hrel
    go_wp2
    go_ret
    exact ⟨rfl, rfl⟩

theorem numbersAre_bad (e : Int) (w : World) (he : e ≠ 0) : Calls Tryd.prog 19 #[.slice none 0 0, .int .i64 e, .int .i64 e, .slice none 0 0] w fun r w' => r = .returned (.bool true) ∧ w' = w := by
  have hb : (e != 0) = true := by simp [he]
  go_enter Tryd.func19, Tryd.ntmps19
  go_wp2_with (go_at_call 30; refine (same_none _).mono ?_; rintro e w' ⟨rfl, rfl⟩)
  go_ret
  exact ⟨ret_bool (by simp), rfl⟩

theorem numbersAre_ok (b1 c1 b2 c2 : Nat) (l : List Int) (w : World) (hl : l.length ≤ 1000000000) (h1 : At w b1 0 l) (h2 : At w b2 0 l) :
    Calls Tryd.prog 19 #[.slice (some ⟨b1, 0, none⟩) l.length c1, .int .i64 0, .int .i64 0, .slice (some ⟨b2, 0, none⟩) l.length c2] w fun r w' => r = .returned (.bool true) ∧ ∃ k, w' = w.drewN k := by
  have HS : Hid (Calls Tryd.prog 30 #[.slice (some ⟨b1, 0, none⟩) l.length c1, .slice (some ⟨b2, 0, none⟩) l.length c2] w fun e w' => e = .returned (.bool true) ∧ ∃ k, w' = w.drewN k) := same_yes b1 0 c1 b2 0 c2 l w hl h1 h2
  clear h1 h2 hl
  generalize l.length = n at *
  go_enter Tryd.func19, Tryd.ntmps19
  go_wp2_with (go_at_call 30; refine HS.out.mono ?_; rintro e w' ⟨rfl, k, rfl⟩)
  go_ret
  exact ⟨rfl, _, rfl⟩

set_option maxHeartbeats 1000000 in
theorem shares_bad (T : Int) (a : Option Addr) (n cap : Nat) (E : Int) (w : World) (ht : Tab w) (hE : E ≠ 0)
    (h1 : ∀ w' : World, Below w.heap.size w w' → Calls Tryd.prog 17 #[.int .i64 T, .slice a n cap] w' fun e w'' => e = .returned (.tuple #[.slice none 0 0, .int .i64 E]) ∧ w'' = w')
    (h2 : ∀ w' : World, Below w.heap.size w w' → Calls Tryd.prog 18 #[.int .i64 T, .slice a n cap] w' fun e w'' => e = .returned (.tuple #[.slice none 0 0, .int .i64 E]) ∧ w'' = w') :
    Calls Tryd.prog 5 #[.int .i64 T, .slice a n cap] w fun e w' => e = .returned (.bool true) ∧ Below w.heap.size w w' := by
  have HT : Hid (Tab w) := ht
  have H1 := Lib.hid h1
  have H2 := Lib.hid h2
  clear h1 h2 ht
  go_enter Tryd.func5, Tryd.ntmps5
  go_wp2_with fail
  refine (H1.out w (Below.refl _ _)).mono ?_
  rintro e w1 ⟨rfl, rfl⟩
  go_wp2_with fail
  refine (H2.out _ (Below.refl _ _)).mono ?_
  rintro e w2 ⟨rfl, rfl⟩
  go_wp2_with fail
  refine (begun _ HT.out).mono ?_
  rintro e w3 ⟨rfl, hb3⟩
  have HB3 := Lib.hid hb3
  clear hb3
  go_wp2_with fail
  refine (numbersAre_bad E w3 hE).mono ?_
  rintro e w4 ⟨rfl, rfl⟩
  go_wp2_with fail
  go_ret
  exact ⟨rfl, HB3.out⟩

set_option maxHeartbeats 1000000 in
theorem shares_good (T : Int) (b off cap : Nat) (l : List Int) (w : World) (ht : Tab w) (h1 : 1 ≤ l.length) (h2 : l.length ≤ 20) (h3 : 0 ≤ T) (h4 : T ≤ 1000000000000) (hat : At w b off l) (hE : shareE T l = 0) :
    Calls Tryd.prog 5 #[.int .i64 T, .slice (some ⟨b, off, none⟩) l.length cap] w fun e w' => e = .returned (.bool true) ∧ Below w.heap.size w w' := by
  have HT : Hid (Tab w) := ht
  have H1 : Hid (Calls Tryd.prog 17 #[.int .i64 T, .slice (some ⟨b, off, none⟩) l.length cap] w fun e w' =>
      e = .returned (.tuple #[.slice (some ⟨w.heap.size, 0, none⟩) l.length l.length, .int .i64 0]) ∧ Own w' w.heap.size (shareL T l) ∧ Below w.heap.size w w') := by
    refine (share_in T b off l cap w h1 h2 h3 h4 hat).mono ?_
    rintro e w' (⟨h, _⟩ | ⟨_, h⟩)
    · exact absurd hE h
    · exact h
  have H2 : Hid (∀ w1, Below w.heap.size w w1 → Calls Tryd.prog 18 #[.int .i64 T, .slice (some ⟨b, off, none⟩) l.length cap] w1 fun e w' =>
      ∃ g c, e = .returned (.tuple #[.slice (some ⟨g, 0, none⟩) l.length c, .int .i64 0]) ∧ Own w' g (shareL T l) ∧ w1.heap.size ≤ g ∧ Below w1.heap.size w1 w') := by
    intro w1 hb
    refine (shareR_in T b off l cap w1 h1 h2 h3 h4 (hat.below hb hat.1)).mono ?_
    rintro e w' (⟨h, _⟩ | ⟨_, h⟩)
    · exact absurd hE h
    · exact h
  have HS : Hid ((shareL T l).length = l.length) := shareL_length T l
  have HN : Hid (∀ (b1 c1 b2 c2 : Nat) (w : World), At w b1 0 (shareL T l) → At w b2 0 (shareL T l) → Calls Tryd.prog 19 #[.slice (some ⟨b1, 0, none⟩) l.length c1, .int .i64 0, .int .i64 0, .slice (some ⟨b2, 0, none⟩) l.length c2] w fun r w' => r = .returned (.bool true) ∧ ∃ k, w' = w.drewN k) := by
    intro b1 c1 b2 c2 w' q1 q2
    have := numbersAre_ok b1 c1 b2 c2 (shareL T l) w' (by rw [HS.out]; omega) q1 q2
    rw [HS.out] at this
    exact this
  clear ht hat hE HS
  generalize shareL T l = sl at *
  generalize l.length = n at *
  go_enter Tryd.func5, Tryd.ntmps5
  go_wp2_with fail
  refine H1.out.mono ?_
  rintro e w1 ⟨rfl, ho1, hb1⟩
  have HB1 := Lib.hid hb1
  have HO1 := Lib.hid ho1
  clear hb1 ho1
  go_wp2_with fail
  refine (H2.out w1 HB1.out).mono ?_
  rintro e w2 ⟨g, c, rfl, ho2, hg, hb2⟩
  have HB2 : Hid (Below w.heap.size w w2) := HB1.out.trans (hb2.mono HB1.out.size)
  have HO2 := Lib.hid ho2
  have HA1 : Hid (At w2 w.heap.size 0 sl) := HO1.out.at.below hb2 HO1.out.1
  clear hb2 ho2
  go_wp2_with fail
  refine (begun w2 (HT.out.below HB2.out)).mono ?_
  rintro e w3 ⟨rfl, hb3⟩
  have HB3 : Hid (Below w.heap.size w w3) := HB2.out.trans (hb3.mono HB2.out.size)
  have HA3 : Hid (At w3 w.heap.size 0 sl) := HA1.out.below hb3 HA1.out.1
  have HA4 : Hid (At w3 g 0 sl) := HO2.out.at.below hb3 HO2.out.1
  clear hb3
  go_wp2_with fail
  refine (HN.out w.heap.size n g c w3 HA3.out HA4.out).mono ?_
  rintro e w4 ⟨rfl, k4, rfl⟩
  go_wp2_with fail
  go_ret
  exact ⟨rfl, HB3.out.trans ((below_drewN w3 k4).mono HB3.out.size)⟩

theorem walk_moneyShares (T : Int) (_ : (Lit.int .i64 T).wf = true) (a : Option Addr) (len cap : Nat) (l : List Int) {w : World} (hc : Came w a l) (hn : l.length = len) (hm : len ≤ maxLen) (_ : ∀ n ∈ l, (Lit.int .i64 n).wf = true) (ht : Tab w) :
    Calls Tryd.prog 5 #[.int .i64 T, .slice a len cap] w fun e w' => e = .returned (.bool true) ∧ Below w.heap.size w w' := by
  subst hn
  unfold maxLen at hm
  by_cases hbad : l.length < 1 ∨ 20 < l.length ∨ T < 0 ∨ 1000000000000 < T
  · have hE : shareE T l ≠ 0 := by
      unfold shareE
      by_cases h1 : l.length < 1 ∨ 20 < l.length
      · rw [if_pos h1]; decide
      · rw [if_neg h1, if_pos (by omega)]; decide
    exact shares_bad T a l.length cap (shareE T l) _ ht hE (fun w' _ => share_bad1 T a l cap w' hm hbad) (fun w' _ => shareR_bad1 T a l cap w' hm hbad)
  · rcases hc with h0 | ⟨b, off, rfl, hat⟩
    · omega
    · by_cases hE : shareE T l = 0
      · exact shares_good T b off cap l _ ht (by omega) (by omega) (by omega) (by omega) hat hE
      · refine shares_bad T _ l.length cap (shareE T l) _ ht hE (fun w' hb => ?_) (fun w' hb => ?_)
        · refine (share_in T b off l cap w' (by omega) (by omega) (by omega) (by omega) (hat.below hb hat.1)).mono ?_
          rintro e w'' (⟨_, h⟩ | ⟨h, _⟩)
          · exact h
          · exact absurd h hE
        · refine (shareR_in T b off l cap w' (by omega) (by omega) (by omega) (by omega) (hat.below hb hat.1)).mono ?_
          rintro e w'' (⟨_, h⟩ | ⟨h, _⟩)
          · exact h
          · exact absurd h hE
end Go.Proofs.YtiaphopimdljmaaDoor
