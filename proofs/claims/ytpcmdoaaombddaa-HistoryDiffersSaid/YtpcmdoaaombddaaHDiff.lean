/-
  Promise D3: walks of Differs and of the reference's SameAt and DiffersAt.
-/
import Derived.Test.YtpcmdoaaombddaaHNext
namespace Go.Proofs.Ytpcmdoaaombddaa
open Go.RowKit

/-- What Differs answers. -/
def DiffIs (l : List Rw) (a b d : Int) (ok : Bool) (e : Int) : Prop := (dayE l [a, b] ≠ 0 ∧ d = 0 ∧ ok = false ∧ e = dayE l [a, b]) ∨ (dayE l [a, b] = 0 ∧ FDiff l a b d ok ∧ e = 0)
theorem diffB_of {l : List Rw} {a b x v1 v2 : Int} {n : Nat} {s1 s2 : Bool} (hn : l.length = n) (h1 : atV (best l x a n) = v1) (h2 : atS (best l x a n) = s1) (h3 : atV (best l x b n) = v2) (h4 : atS (best l x b n) = s2) : diffB l a b x = !(decide (v1 = v2) && (s1 == s2)) := by
  unfold diffB
  rw [hn, h1, h2, h3, h4]

set_option maxRecDepth 100000 in
set_option maxHeartbeats 1000000 in
theorem Differs_any (a : Option Addr) (n cap : Nat) (l : List Rw) (p q : Int) (w : World) (hc : CameR w a l) (hn : l.length = n) (hm : n ≤ maxLen) :
    Calls Try.prog 15 #[.slice a n cap, .int .i64 p, .int .i64 q] w fun e w' => ∃ (d : Int) (b : Bool) (er : Int), e = .returned (.tuple #[.int .i64 d, .bool b, .int .i64 er]) ∧ DiffIs l p q d b er ∧ Below w.heap.size w w' := by
  have hb0 := (Below.refl w.heap.size w).alloc (Nat.le_refl _) (.cells #[.int .i64 p, .int .i64 q] 3)
  have HK := Lib.hid (checkDays_any a n cap l w.heap.size 2 2 [p, q] _ (hc.below hb0) hn hm (by simp) (two_cells w p q) rfl (by omega))
  have HB0 := Lib.hid hb0
  have HC := Lib.hid hc
  have HN := Lib.hid hn
  clear hc hb0 hn
  go_enter Try.func15, Try.ntmps15
  go_wp2_with fail
  refine HK.out.mono ?_
  rintro e w1 ⟨rfl, hb1⟩
  have HB1 := Lib.hid (HB0.out.trans (hb1.mono HB0.out.size))
  clear hb1 HK
  by_cases hz : dayE l [p, q] = 0
  · have hok := histE_ok (dayE_ok hz).1
    have hn50 : n ≤ 50 := by have := HN.out; omega
    have HROW := Lib.hid hok.2.1
    clear hok
    go_wp2_with fail
    go_loopw [10] (fun i wr => ∃ x : Int, i = .int .i64 x ∧ 0 ≤ x ∧ x ≤ 73049 ∧ (∀ j, 0 ≤ j → j < x → diffB l p q j = false) ∧ Below w.heap.size w wr) (fun i _ => (73050 - intOf i).toNat)
    case atStart => exact ⟨0, rfl, by omega, by omega, fun j h1 h2 => by omega, HB1.out⟩
    case round =>
      obtain ⟨x, rfl, hx0, hx1, hall, hb⟩ := hrel
      have HA := Lib.hid hall
      have HB := Lib.hid hb
      clear hall hb
      by_cases hle : x ≤ 73048
      · go_wp2_with fail
        refine (holds_any a n cap l x p _ (HC.out.below HB.out) HN.out hn50).mono ?_
        rintro e w2 ⟨rfl, hb2⟩
        have HB2 := Lib.hid (HB.out.trans (hb2.mono HB.out.size))
        clear hb2
        go_wp2_with fail
        refine (holds_any a n cap l x q _ (HC.out.below HB2.out) HN.out hn50).mono ?_
        rintro e w3 ⟨rfl, hb3⟩
        have HB3 := Lib.hid (HB2.out.trans (hb3.mono HB2.out.size))
        clear hb3
        generalize hv1 : atV (best l x p n) = v1 at *
        generalize hs1 : atS (best l x p n) = s1 at *
        generalize hv2 : atV (best l x q n) = v2 at *
        generalize hs2 : atS (best l x q n) = s2 at *
        have HD := Lib.hid (diffB_of HN.out hv1 hs1 hv2 hs2)
        clear hv1 hs1 hv2 hs2
        have HNXT := Lib.hid (fun w hc => nextFrom_any a n cap l x w hc HN.out hn50 HROW.out hle)
        by_cases hv : v1 = v2 ∧ s1 = s2
        · obtain ⟨rfl, rfl⟩ := hv
          have HD0 : Hid (diffB l p q x = false) := by unfold Hid; rw [HD.out]; simp
          clear HD
          go_wp2_with fail
          refine (HNXT.out _ (HC.out.below HB3.out)).mono ?_
          rintro e w4 ⟨r, rfl, ⟨hr1, hr2, _, hr4⟩, hb4⟩
          have HB4 := Lib.hid (HB3.out.trans (hb4.mono HB3.out.size))
          have HR4 := Lib.hid hr4
          clear hb4 hr4
          go_wp2_with fail
          go_roundw
          case rel =>
            refine ⟨r, rfl, by omega, hr2, ?_, HB4.out⟩
            intro j h1 h2
            by_cases e : j < x
            · exact HA.out j h1 e
            · rw [diffB_still (x := x) (y := j) (by omega) (fun i hi => ?_)]
              · exact HD0.out
              · by_cases e2 : (rnth l i).frm ≤ x
                · exact .inl e2
                · have := HR4.out i (by rw [← HN.out]; exact hi) (by omega)
                  exact .inr (by omega)
          case measure => simp [intOf]; omega
        · have HD0 : Hid (diffB l p q x = true) := by
            unfold Hid
            rw [HD.out]
            by_cases e : v1 = v2
            · have : ¬ s1 = s2 := fun h => hv ⟨e, h⟩
              simp [e, this]
            · simp [e]
          clear HD
          have HA2 : Hid (DiffIs l p q x true 0) := .inr ⟨hz, .inl ⟨rfl, hx0, hle, HD0.out, HA.out⟩, rfl⟩
          by_cases e : v1 = v2
          · have es : (s1 == s2) = false := by
              have : ¬ s1 = s2 := fun h => hv ⟨e, h⟩
              simp [this]
            subst e
            clear hv
            cases s1 <;> cases s2 <;> simp at es
            all_goals go_wp2_with fail
            all_goals refine bodyPost_ret (v := .tuple #[.int .i64 x, .bool true, .int .i64 0]) (by simp [results, Try.results15, go_sem] <;> rfl) rfl ⟨x, true, 0, rfl, HA2.out, HB3.out⟩
          · have eB : decide (v1 = v2) = false := decide_eq_false e
            clear hv
            go_wp2_with fail
            all_goals refine bodyPost_ret (v := .tuple #[.int .i64 x, .bool true, .int .i64 0]) (by simp [results, Try.results15, go_sem] <;> rfl) rfl ⟨x, true, 0, rfl, HA2.out, HB3.out⟩
      · have hleB : decide (x ≤ 73048) = false := decide_eq_false hle
        have HA2 : Hid (DiffIs l p q 0 false 0) := .inr ⟨hz, .inr ⟨rfl, rfl, fun j h1 h2 => HA.out j h1 (by omega)⟩, rfl⟩
        go_wp2_with fail
        refine bodyPost_ret (v := .tuple #[.int .i64 0, .bool false, .int .i64 0]) (by simp [results, Try.results15, go_sem] <;> rfl) rfl (by first | exact ⟨0, false, 0, rfl, HA2.out, HB.out⟩ | exact ⟨0, .inl ⟨0, rfl, HA2.out, HB.out⟩⟩)
  · have hzB : decide (dayE l [p, q] = 0) = false := decide_eq_false hz
    have HA : Hid (DiffIs l p q 0 false (dayE l [p, q])) := .inl ⟨hz, rfl, rfl, rfl⟩
    go_wp2_with fail
    refine bodyPost_ret (v := .tuple #[.int .i64 0, .bool false, .int .i64 (dayE l [p, q])]) (by simp [results, Try.results15, go_sem] <;> rfl) rfl ⟨0, false, _, rfl, HA.out, HB1.out⟩
end Go.Proofs.Ytpcmdoaaombddaa
