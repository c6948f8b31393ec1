/-
  Promise B4: walks of firstWorkday backwards, Last and Workdays.
-/
import Derived.Test.YtckealcgbjgfhaaDoorCWork
namespace Go.Proofs.YtckealcgbjgfhaaDoor
open Go.RowKit Go.Maps

/-- The last workday up to a day, or that there is none. -/
def LastIs (l : List Int) (d r e : Int) : Prop := (e = 0 ∧ 0 ≤ r ∧ r ≤ d ∧ workB l r = true ∧ ∀ j, r < j → j ≤ d → workB l j = false) ∨ (e = 5 ∧ r = 0 ∧ ∀ j, 0 ≤ j → j ≤ d → workB l j = false)
theorem LastIs.unique {l : List Int} {d r e r' e' : Int} (h : LastIs l d r e) (h' : LastIs l d r' e') : r = r' ∧ e = e' := by
  rcases h with ⟨a1, a2, a3, a4, a5⟩ | ⟨a1, a2, a3⟩ <;> rcases h' with ⟨b1, b2, b3, b4, b5⟩ | ⟨b1, b2, b3⟩
  · refine ⟨?_, by omega⟩
    by_cases h1 : r < r'
    · rw [a5 r' h1 b3] at b4; cases b4
    · by_cases h2 : r' < r
      · rw [b5 r h2 a3] at a4; cases a4
      · omega
  · rw [b3 r a2 a3] at a4; cases a4
  · rw [a3 r' b2 b3] at b4; cases b4
  · exact ⟨by omega, by omega⟩

/-- What Last answers. -/
def LastE (l : List Int) (d r e : Int) : Prop := (checkE l [d] ≠ 0 ∧ r = 0 ∧ e = checkE l [d]) ∨ (checkE l [d] = 0 ∧ LastIs l d r e)
theorem LastE.unique {l : List Int} {d r e r' e' : Int} (h : LastE l d r e) (h' : LastE l d r' e') : r = r' ∧ e = e' := by
  rcases h with ⟨a1, a2, a3⟩ | ⟨a1, a2⟩ <;> rcases h' with ⟨b1, b2, b3⟩ | ⟨b1, b2⟩
  · exact ⟨by omega, by omega⟩
  · exact absurd b1 a1
  · exact absurd a1 b1
  · exact a2.unique b2

/-- How many of the n days from f on are workdays. -/
def cntW (l : List Int) (f : Int) : Nat → Int
  | 0 => 0
  | n + 1 => cntW l f n + (if workB l (f + n) = true then 1 else 0)
theorem cntW_bd (l : List Int) (f : Int) : ∀ n : Nat, 0 ≤ cntW l f n ∧ cntW l f n ≤ n
  | 0 => ⟨Int.le_refl _, Int.le_refl _⟩
  | n + 1 => by
    have := cntW_bd l f n
    unfold cntW
    split <;> omega
theorem cntW_yes {l : List Int} {f : Int} {n : Nat} (h : workB l (f + n) = true) : cntW l f (n + 1) = cntW l f n + 1 := by unfold cntW; rw [if_pos h]; cases n <;> rfl
theorem cntW_no {l : List Int} {f : Int} {n : Nat} (h : workB l (f + n) = false) : cntW l f (n + 1) = cntW l f n := by
  rw [cntW, if_neg (by rw [h]; simp), Int.add_zero]
/-- How many workdays there are from a day to another one. -/
def cntD (l : List Int) (f t : Int) : Int := cntW l f (t + 1 - f).toNat

theorem came_two (w : World) (d e : Int) : Came (w.alloc (.cells #[.int .i64 d, .int .i64 e] 3)) (some ⟨w.heap.size, 0, none⟩) [d, e] := by
  refine .inr ⟨_, _, rfl, by simp, fun j hj => ?_⟩
  have : j = 0 ∨ j = 1 := by simp at hj; omega
  rcases this with rfl | rfl
  · simp [nth]
  · simp [nth]

/-- What Workdays answers. -/
def WorkE (l : List Int) (f t n e : Int) : Prop := (checkE l [f, t] ≠ 0 ∧ n = 0 ∧ e = checkE l [f, t]) ∨ (checkE l [f, t] = 0 ∧ n = cntD l f t ∧ e = 0)
theorem WorkE.unique {l : List Int} {f t r e r' e' : Int} (h : WorkE l f t r e) (h' : WorkE l f t r' e') : r = r' ∧ e = e' := by
  rcases h with ⟨a1, a2, a3⟩ | ⟨a1, a2, a3⟩ <;> rcases h' with ⟨b1, b2, b3⟩ | ⟨b1, b2, b3⟩
  · exact ⟨by omega, by omega⟩
  · exact absurd b1 a1
  · exact absurd a1 b1
  · exact ⟨by omega, by omega⟩

set_option maxHeartbeats 1000000 in
theorem Workdays_any (f t : Int) (a : Option Addr) (n cap : Nat) (l : List Int) (w : World) (hc : Came w a l) (hn : l.length = n) (hm : n ≤ maxLen) :
    Calls Tryd.prog 29 #[.int .i64 f, .int .i64 t, .slice a n cap] w fun e w' => ∃ r er : Int, e = .returned (.tuple #[.int .i64 r, .int .i64 er]) ∧ WorkE l f t r er ∧ Below w.heap.size w w' := by
  have hc1 : Came (w.alloc (.cells #[.int .i64 f, .int .i64 t] 3)) a l := hc.below ((Below.refl _ _).alloc (Nat.le_refl _) _)
  have HK := Lib.hid (check_any a n cap l _ 2 2 [f, t] _ hc1 hn hm (came_two w f t) rfl (by omega))
  have HC1 := Lib.hid hc1
  have HN := Lib.hid hn
  have hce := checkE_bd l [f, t]
  clear hc hc1 hn
  go_enter Tryd.func29, Tryd.ntmps29
  go_wp2_with fail
  refine HK.out.mono ?_
  rintro e w1 ⟨rfl, k1, rfl⟩
  have HB1 := Lib.hid (below_dN ((Below.refl w.heap.size w).alloc (Nat.le_refl _) (.cells #[.int .i64 f, .int .i64 t] 3)) k1)
  by_cases hz : checkE l [f, t] = 0
  · have hok := checkE_ok hz
    have hft : dayB f = true ∧ dayB t = true := by simpa using hok.2.1
    obtain ⟨hf0, hf1⟩ := dayB_iff.1 hft.1
    obtain ⟨ht0, ht1⟩ := dayB_iff.1 hft.2
    have HG := Lib.hid (freeDays_any a n cap l _ (HC1.out.dN k1) HN.out (by have := HN.out; omega) hok.2.2.1)
    rw [show (((w.alloc (.cells #[.int .i64 f, .int .i64 t] 3)).drewN k1).heap.size) = w.heap.size + 1 from by simp [World.drewN]] at HG
    clear hok hce HK hft
    go_wp2_with fail
    refine HG.out.mono ?_
    rintro e w2 ⟨rfl, hs2, hb2⟩
    have HB2 := Lib.hid (HB1.out.trans (hb2.mono (by omega)))
    have HS2 := Lib.hid hs2
    clear hs2 hb2 HG
    go_wp2_with fail
    go_loopw [10, 11] (fun c d wr => ∃ k : Nat, k ≤ (t + 1 - f).toNat ∧ c = .int .i64 (cntW l f k) ∧ d = .int .i64 (f + k) ∧ SetIs wr (w.heap.size + 1) n l ∧ Below w.heap.size w wr) (fun _ d _ => (t + 1 - intOf d).toNat)
    case atStart => exact ⟨0, Nat.zero_le _, rfl, by simp, HS2.out, HB2.out⟩
    case round =>
      obtain ⟨k, hk, rfl, rfl, hs, hb⟩ := hrel
      have HS := Lib.hid hs
      have HB := Lib.hid hb
      clear hs hb
      have hcb := cntW_bd l f k
      by_cases hlt : f + (k : Int) ≤ t
      · have hdx : dayB (f + (k : Int)) = true := dayB_iff.2 ⟨by omega, by omega⟩
        cases hwx : workB l (f + (k : Int))
        · have HW := Lib.hid (cntW_no hwx)
          go_wp2_with (go_at_call 40; refine (isWorkday_any _ _ _ l _ hdx HS.out).mono ?_; rintro e w' ⟨rfl, rfl⟩)
          go_roundw
          case rel => exact ⟨k + 1, by omega, by rw [HW.out], by go_num, HS.out.alloc _, HB.out.alloc HB.out.size _⟩
          case measure => simp [intOf]; omega
        · have HW := Lib.hid (cntW_yes hwx)
          go_wp2_with (go_at_call 40; refine (isWorkday_any _ _ _ l _ hdx HS.out).mono ?_; rintro e w' ⟨rfl, rfl⟩)
          go_roundw
          case rel => exact ⟨k + 1, by omega, by rw [HW.out], by go_num, HS.out.alloc _, HB.out.alloc HB.out.size _⟩
          case measure => simp [intOf]; omega
      · have hltB : decide (f + (k : Int) ≤ t) = false := decide_eq_false hlt
        have HR : Hid (cntW l f k = cntD l f t) := by
          have hke : k = (t + 1 - f).toNat := by omega
          unfold Hid cntD
          rw [← hke]
        go_wp2_with fail
        go_ret2
        exact ⟨_, _, rfl, .inr ⟨hz, HR.out, rfl⟩, HB.out⟩
  · have hzB : decide (checkE l [f, t] = 0) = false := decide_eq_false hz
    go_wp2_with fail
    go_ret2
    exact ⟨_, _, rfl, .inl ⟨hz, rfl, rfl⟩, HB1.out⟩
end Go.Proofs.YtckealcgbjgfhaaDoor
