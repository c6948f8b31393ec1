/-
  Promises M1, M4: the walks of Check and of the reference's wrongTotal and CheckTotals.
-/
import Derived.Test.YtfamnlaignjhkaaOCheck
namespace Go.Proofs.Ytfamnlaignjhkaa
open Go.RowKit Go.Sort

theorem ogrow_below (w : World) (q : Nat) (os : Array Obj) : Below w.heap.size w (grow (w.drewN q) os) := by
  refine ⟨rfl, rfl, rfl, by simp [grow, World.drewN], fun k hk => ?_⟩
  show (w.heap ++ os)[k]? = _
  rw [Array.getElem?_append_left hk]
theorem compare_below (p1 y1 m1 p2 y2 m2 : Int) (s1 s2 : ByteArray) (w : World) :
    Calls Try.prog 30 #[.agg #[.int .i64 p1, .string s1, .int .i64 y1, .int .i64 m1], .agg #[.int .i64 p2, .string s2, .int .i64 y2, .int .i64 m2]] w fun e w' => e = .returned (.int .i64 (cmpT ⟨p1, s1, y1, m1⟩ ⟨p2, s2, y2, m2⟩)) ∧ Below w.heap.size w w' :=
  (compare_any p1 y1 m1 p2 y2 m2 s1 s2 w).mono fun _ _ ⟨he, q, os, hw⟩ => ⟨he, by rw [hw]; exact ogrow_below w q os⟩
set_option maxRecDepth 100000 in
set_option maxHeartbeats 2000000 in
theorem Check_any (a : Option Addr) (n cap : Nat) (l : List Tt) (w : World) (hc : CameO w a l) (hn : l.length = n) (hm : n ≤ maxLen) :
    Calls Try.prog 11 #[.slice a n cap] w fun e w' => e = .returned (.int .i64 (totE l)) ∧ Below w.heap.size w w' := by
  have hm' : n ≤ 9223372036854775807 := by unfold maxLen at hm; omega
  have HC := Lib.hid hc
  have HN := Lib.hid hn
  have HE : Hid (totE l = if checkE false l = 0 then (if upT l = true then 0 else 4) else checkE false l) := rfl
  clear hm hc hn
  go_enter Try.func11, Try.ntmps11
  go_wp2_with fail
  refine (eachStrict a n cap l _ HC.out HN.out).mono ?_
  rintro e w1 ⟨rfl, hb1⟩
  have HB1 := Lib.hid hb1
  have HO := Lib.hid (fun h0 => (HC.out.below HB1.out).open HN.out h0)
  clear hb1
  by_cases h0 : checkE false l = 0
  · rw [if_pos h0] at HE
    rw [h0]
    clear h0
    go_wp2_with fail
    go_loopw [4] (fun i wr => ∃ r : Nat, (r + 1 ≤ n ∨ r = 0) ∧ i = .int .i64 ((r : Int) + 1) ∧ Below w1.heap.size w1 wr ∧ ∀ j, j < r → aheadT (onth l j) (onth l (j + 1)) = true) (fun i _ => n - (intOf i).toNat)
    case atStart => exact ⟨0, .inr rfl, rfl, Below.refl _ _, fun j hj => by omega⟩
    case round =>
      obtain ⟨r, hrk, rfl, hb, hall⟩ := hrel
      have HA := Lib.hid hall
      have HB := Lib.hid hb
      clear hall hb
      by_cases hlt : r + 1 < n
      · have hlt' : (r : Int) + 1 < (n : Int) := by omega
        have hlt0 : (r : Int) < (n : Int) := by omega
        obtain ⟨b, off, rfl, hcell⟩ := HO.out (by omega)
        obtain ⟨x0, x1, x2, x3⟩ := hcell _ HB.out r (by omega)
        obtain ⟨y0, y1, y2, y3⟩ := hcell _ HB.out (r + 1) (by omega)
        clear hcell
        have htn : ((r : Int) + 1).toNat = r + 1 := by omega
        have hi0 : (0 : Int) ≤ (r : Int) + 1 := by omega
        have hr0 : (0 : Int) ≤ (r : Int) := by omega
        have hwr : IntKind.i64.wrap (r : Int) = (r : Int) := IntWalk.i64_in _ (by omega)
        have hwd : IntKind.i64.wrap ((r : Int) + 1 - 1) = (r : Int) := by rw [show (r : Int) + 1 - 1 = r by omega]; exact hwr
        have hd0 : (0 : Int) ≤ (r : Int) + 1 - 1 := by omega
        have hdn : (r : Int) + 1 - 1 < (n : Int) := by omega
        have hdt : ((r : Int) + 1 - 1).toNat = r := by omega
        have k0 := cell_regrown x0
        have k1 := cell_regrown x1
        have k2 := cell_regrown x2
        have k3 := cell_regrown x3
        have k4 := cell_regrown y0
        have k5 := cell_regrown y1
        have k6 := cell_regrown y2
        have k7 := cell_regrown y3
        have HK := Lib.hid (fun w => compare_below (onth l r).per (onth l r).yr (onth l r).mon (onth l (r + 1)).per (onth l (r + 1)).yr (onth l (r + 1)).mon (onth l r).nam (onth l (r + 1)).nam w)
        obtain ⟨c, hcc⟩ : ∃ c, cmpT ⟨(onth l r).per, (onth l r).nam, (onth l r).yr, (onth l r).mon⟩ ⟨(onth l (r + 1)).per, (onth l (r + 1)).nam, (onth l (r + 1)).yr, (onth l (r + 1)).mon⟩ = c := ⟨_, rfl⟩
        rw [hcc] at HK
        have HCC : Hid (cmpT (onth l r) (onth l (r + 1)) = c) := hcc
        clear hcc
        by_cases hlc : c < 0
        · have hlc' : decide (0 ≤ c) = false := decide_eq_false (by omega)
          have HT : Hid (aheadT (onth l r) (onth l (r + 1)) = true) := cmpT_lt.1 (by rw [HCC.out]; exact hlc)
          go_wp2_with fail
          refine wp_region_quiet_below (by kernel_rfl) (by kernel_rfl) ?_
          repeat (quiet_step (exact Calls.regrown_of (HK.out _)))
          refine wpQuiet_nil ?_
          intro _ hw'
          obtain ⟨⟨dq, osq⟩, hw''⟩ := hw'
          subst hw''
          go_wp2_with fail
          go_roundw
          case rel =>
            refine ⟨r + 1, .inl (by omega), by go_num, HB.out.trans ((below_regrown wr dq osq).mono HB.out.size), ?_⟩
            intro j hj
            by_cases e : j = r
            · subst e; exact HT.out
            · exact HA.out j (by omega)
          case measure => simp [intOf]; omega
        · have hlc' : decide (0 ≤ c) = true := decide_eq_true (by omega)
          have hge : 0 ≤ c := by omega
          have HT : Hid (upT l = false) := upT_not (by rw [HN.out]; exact hlt) (by
            rw [Bool.eq_false_iff]
            intro h
            have := cmpT_lt.2 h
            rw [HCC.out] at this
            omega)
          rw [HT.out] at HE
          go_wp2_with fail
          refine wp_region_quiet_below (by kernel_rfl) (by kernel_rfl) ?_
          repeat (quiet_step (exact Calls.regrown_of (HK.out _)))
          refine wpQuiet_nil ?_
          intro _ hw'
          obtain ⟨⟨dq, osq⟩, hw''⟩ := hw'
          subst hw''
          go_wp2_with fail
          go_ret
          exact ⟨oret_int HE.out.symm, HB1.out.trans ((HB.out.trans ((below_regrown wr dq osq).mono HB.out.size)).mono HB1.out.size)⟩
      · have hnl : ¬ ((r : Int) + 1 < (n : Int)) := by omega
        have HT : Hid (upT l = true) := upT_iff.2 (fun j hj => HA.out j (by rw [HN.out] at hj; omega))
        rw [HT.out] at HE
        go_wp2_with fail
        go_ret
        exact ⟨oret_int HE.out.symm, HB1.out.trans (HB.out.mono HB1.out.size)⟩
  · rw [if_neg h0] at HE
    have h0' : (checkE false l != 0) = true := by simp [h0]
    obtain ⟨c, hc⟩ : ∃ c, checkE false l = c := ⟨_, rfl⟩
    rw [hc] at HE h0' ⊢
    clear h0 hc
    go_wp2_with fail
    go_ret
    exact ⟨oret_int HE.out.symm, HB1.out⟩
set_option maxRecDepth 100000 in
set_option maxHeartbeats 4000000 in
theorem wrong_ref (p y m : Int) (s : ByteArray) (b : Bool) (w : World) (hs : s.size ≤ 9223372036854775807) :
    Calls Try.prog 31 #[.agg #[.int .i64 p, .string s, .int .i64 y, .int .i64 m], .bool b] w fun e w' => e = .returned (.int .i64 (wrongT b ⟨p, s, y, m⟩)) ∧ Below w.heap.size w w' := by
  have HB := Lib.hid (obelow_box w (.cells #[.int .i64 p, .string s, .int .i64 y, .int .i64 m] 50))
  have HD : Hid (wrongT b ⟨p, s, y, m⟩ = if perB p = true ∧ yrB y = true ∧ kindB b m = true then (if namB s = true then 0 else 1) else 3) := rfl
  have HF : Hid (¬ (perB p = true ∧ yrB y = true ∧ kindB b m = true) → wrongT b ⟨p, s, y, m⟩ = 3) := fun h => by rw [HD.out, if_neg h]
  by_cases q1 : p < 1
  · have HR := Lib.hid (HF.out (fun h => by have := of_decide_eq_true h.1; omega))
    have hmo : True := trivial
    have q1' : decide (p < 1) = true := decide_eq_true q1
    go_enter Try.func31, Try.ntmps31
    go_wp2_with (first | (go_at_call 36; refine (isMoney_ref _ _).mono ?_; rintro e w' ⟨rfl, h'⟩; subst w'; rw [hmo]))
    go_ret
    exact ⟨oret_int HR.out.symm, HB.out⟩
  · by_cases q2 : 999 < p
    · have HR := Lib.hid (HF.out (fun h => by have := of_decide_eq_true h.1; omega))
      have hmo : True := trivial
      have q1' : decide (p < 1) = false := decide_eq_false q1
      have q2' : decide (999 < p) = true := decide_eq_true q2
      go_enter Try.func31, Try.ntmps31
      go_wp2_with (first | (go_at_call 36; refine (isMoney_ref _ _).mono ?_; rintro e w' ⟨rfl, h'⟩; subst w'; rw [hmo]))
      go_ret
      exact ⟨oret_int HR.out.symm, HB.out⟩
    · by_cases q3 : y < 2000
      · have HR := Lib.hid (HF.out (fun h => by have := of_decide_eq_true h.2.1; omega))
        have hmo : True := trivial
        have q1' : decide (p < 1) = false := decide_eq_false q1
        have q2' : decide (999 < p) = false := decide_eq_false q2
        have q3' : decide (y < 2000) = true := decide_eq_true q3
        go_enter Try.func31, Try.ntmps31
        go_wp2_with (first | (go_at_call 36; refine (isMoney_ref _ _).mono ?_; rintro e w' ⟨rfl, h'⟩; subst w'; rw [hmo]))
        go_ret
        exact ⟨oret_int HR.out.symm, HB.out⟩
      · by_cases q4 : 2199 < y
        · have HR := Lib.hid (HF.out (fun h => by have := of_decide_eq_true h.2.1; omega))
          have hmo : True := trivial
          have q1' : decide (p < 1) = false := decide_eq_false q1
          have q2' : decide (999 < p) = false := decide_eq_false q2
          have q3' : decide (y < 2000) = false := decide_eq_false q3
          have q4' : decide (2199 < y) = true := decide_eq_true q4
          go_enter Try.func31, Try.ntmps31
          go_wp2_with (first | (go_at_call 36; refine (isMoney_ref _ _).mono ?_; rintro e w' ⟨rfl, h'⟩; subst w'; rw [hmo]))
          go_ret
          exact ⟨oret_int HR.out.symm, HB.out⟩
        · have q1' : decide (p < 1) = false := decide_eq_false q1
          have q2' : decide (999 < p) = false := decide_eq_false q2
          have q3' : decide (y < 2000) = false := decide_eq_false q3
          have q4' : decide (2199 < y) = false := decide_eq_false q4
          have hp : perB p = true := decide_eq_true (by omega)
          have hy : yrB y = true := decide_eq_true (by omega)
          cases hmo : monB m
          · have HR := Lib.hid (HF.out (fun h => by have := h.2.2; unfold kindB someB at this; rw [hmo] at this; cases b <;> simp at this))
            go_enter Try.func31, Try.ntmps31
            go_wp2_with (first | (go_at_call 36; refine (isMoney_ref _ _).mono ?_; rintro e w' ⟨rfl, h'⟩; subst w'; rw [hmo]))
            go_ret
            exact ⟨oret_int HR.out.symm, HB.out⟩
          · by_cases hz : m = 0
            · have hz' : (m == 0) = true := by simp [hz]
              cases b
              · have HR := Lib.hid (HF.out (fun h => by have := h.2.2; unfold kindB someB at this; rw [hz'] at this; simp at this))
                clear hz
                go_enter Try.func31, Try.ntmps31
                go_wp2_with (first | (go_at_call 36; refine (isMoney_ref _ _).mono ?_; rintro e w' ⟨rfl, h'⟩; subst w'; rw [hmo]))
                go_ret
                exact ⟨oret_int HR.out.symm, HB.out⟩
              · have hk : kindB true m = true := by unfold kindB; rw [hmo]; rfl
                clear hz
                have HK := Lib.hid hk
                clear hk
                go_enter Try.func31, Try.ntmps31
                go_wp2_with (first | (go_at_call 36; refine (isMoney_ref _ _).mono ?_; rintro e w' ⟨rfl, h'⟩; subst w'; rw [hmo]))
                have hk := HK.out
                refine (isName_ref s _ hs).mono ?_
                rintro e w1 ⟨bn, rfl, hbn, hbel⟩
                have HB2 := Lib.hid (HB.out.trans (hbel.mono HB.out.size))
                clear hbel
                cases bn
                · have HR : Hid (wrongT true ⟨p, s, y, m⟩ = 1) := by
                    unfold Hid
                    rw [HD.out, hp, hy, hk, show namB s = false from decide_eq_false (fun h => by have := hbn.2 h; cases this)]; simp
                  clear hbn
                  go_wp2_with fail
                  go_ret
                  exact ⟨oret_int HR.out.symm, HB2.out⟩
                · have HR : Hid (wrongT true ⟨p, s, y, m⟩ = 0) := by
                    unfold Hid
                    rw [HD.out, hp, hy, hk, show namB s = true from decide_eq_true (hbn.1 rfl)]; simp
                  clear hbn
                  go_wp2_with fail
                  go_ret
                  exact ⟨oret_int HR.out.symm, HB2.out⟩
            · have hz' : (m == 0) = false := by simp [hz]
              have hk : kindB b m = true := by unfold kindB someB; rw [hmo, hz']; cases b <;> rfl
              clear hz
              have HK := Lib.hid hk
              clear hk
              go_enter Try.func31, Try.ntmps31
              go_wp2_with (first | (go_at_call 36; refine (isMoney_ref _ _).mono ?_; rintro e w' ⟨rfl, h'⟩; subst w'; rw [hmo]))
              have hk := HK.out
              refine (isName_ref s _ hs).mono ?_
              rintro e w1 ⟨bn, rfl, hbn, hbel⟩
              have HB2 := Lib.hid (HB.out.trans (hbel.mono HB.out.size))
              clear hbel
              cases bn
              · have HR : Hid (wrongT b ⟨p, s, y, m⟩ = 1) := by
                  unfold Hid
                  rw [HD.out, hp, hy, hk, show namB s = false from decide_eq_false (fun h => by have := hbn.2 h; cases this)]; simp
                clear hbn
                go_wp2_with fail
                go_ret
                exact ⟨oret_int HR.out.symm, HB2.out⟩
              · have HR : Hid (wrongT b ⟨p, s, y, m⟩ = 0) := by
                  unfold Hid
                  rw [HD.out, hp, hy, hk, show namB s = true from decide_eq_true (hbn.1 rfl)]; simp
                clear hbn
                go_wp2_with fail
                go_ret
                exact ⟨oret_int HR.out.symm, HB2.out⟩
end Go.Proofs.Ytfamnlaignjhkaa
