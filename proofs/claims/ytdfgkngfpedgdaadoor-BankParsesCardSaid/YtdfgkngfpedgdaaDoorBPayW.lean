/-
  Promise P3: the walks of placesByRef and checkPayments.
-/
import Derived.Test.YtdfgkngfpedgdaaDoorBPay
namespace Go.Proofs.YtdfgkngfpedgdaaDoor
open Go.RowKit Go.Maps Go.WideMaps

theorem intLaw : Keyed Tryd.prog 3 := int_keyed Tryd.underlying3
theorem zeroInt (w : World) : (zeroValue 3).run Tryd.prog w = .ok (.int .i64 0) w := by kernel_rfl
theorem make_mapI (k : Int) (w : World) : (Instr.makeMap 71 (some (.int .i64 k))).run Tryd.prog w = .ok (.map (some w.heap.size)) (w.alloc (.map #[] 0)) := by
  simp [Instr.makeMap, run_underlying Tryd.underlying71, asInt, asIntOf, Result.andThen]
/-- The map in block b: its keys, its size, what it holds of each. -/
def MapI (w : World) (b n : Nat) (g : Int → Option Int) (c : Nat) : Prop := ∃ D : DataW Unit, w.ownsMap Tryd.prog 3 (plainElem (H := Unit) Tryd.prog 3) b n D ∧ (∀ x, Maps.has D (.int .i64 x) = (g x).isSome ∧ D.atKey (.int .i64 x) (.lit (.int .i64 0)) = .lit (.int .i64 ((g x).getD 0))) ∧ Maps.size D = c
theorem MapI.lt {w : World} {b n c : Nat} {g : Int → Option Int} (h : MapI w b n g c) : b < w.heap.size := by
  obtain ⟨D, ⟨es, clock, hb, _⟩, _⟩ := h
  by_cases hlt : b < w.heap.size
  · exact hlt
  · rw [Array.getElem?_eq_none (by omega)] at hb
    cases hb
theorem MapI.below {w w' : World} {b n c : Nat} {g : Int → Option Int} (h : MapI w b n g c) (hb : Below w.heap.size w w') : MapI w' b n g c := by
  have hlt := h.lt
  obtain ⟨D, ⟨es, clock, hbk, h3⟩, h2⟩ := h
  exact ⟨D, ⟨es, clock, by rw [hb.block b hlt]; exact hbk, h3⟩, h2⟩
theorem MapI.made (w : World) : MapI (w.alloc (.map #[] 0)) w.heap.size 0 (fun _ => none) 0 :=
  ⟨.map [], World.ownsMap_made _ _ _ _, fun x => ⟨by simp [Maps.has], by simp [DataW.atKey]⟩, by simp [Maps.size]⟩
theorem mapI_put {D : DataW Unit} {g : Int → Option Int} {z v : Int} (hm : IsMap D) (h : ∀ x, Maps.has D (.int .i64 x) = (g x).isSome ∧ D.atKey (.int .i64 x) (.lit (.int .i64 0)) = .lit (.int .i64 ((g x).getD 0))) (x : Int) :
    Maps.has (D.put (.int .i64 z) (.lit (.int .i64 v))) (.int .i64 x) = (if x = z then some v else g x).isSome ∧ (D.put (.int .i64 z) (.lit (.int .i64 v))).atKey (.int .i64 x) (.lit (.int .i64 0)) = .lit (.int .i64 ((if x = z then some v else g x).getD 0)) := by
  by_cases e : x = z
  · rw [if_pos e, e]
    exact ⟨has_put_same hm (show WideAt.IsKeyLit (.int .i64 z) from trivial) _, atKey_put_same hm (show WideAt.IsKeyLit (.int .i64 z) from trivial) _ _⟩
  · rw [if_neg e, has_put_other (by intro q; cases q; exact e rfl), atKey_put_other (by intro q; cases q; exact e rfl)]
    exact h x
/-- Where the last of the first k with a ref is. -/
def lastR (l : List Py) : Nat → Int → Option Int
  | 0, _ => none
  | k + 1, x => if x = (pnth l k).ref then some (k : Int) else lastR l k x
theorem lastR_met (l : List Py) (x : Int) : ∀ k, (lastR l k x).isSome = metR l x k
  | 0 => rfl
  | k + 1 => by
    rw [lastR, metR]
    by_cases e : x = (pnth l k).ref
    · rw [if_pos e, e]; simp
    · rw [if_neg e, lastR_met l x k]
      have : ((pnth l k).ref == x) = false := by simpa using fun q => e q.symm
      rw [this, Bool.or_false]
def PlacesRet (w w' : World) (e : Ending) (l : List Py) (n : Nat) : Prop := ∃ b, e = .returned (.map (some b)) ∧ w.heap.size ≤ b ∧ MapI w' b n (lastR l n) (cntR l n) ∧ Below w.heap.size w w'
theorem below_to {B B' : Nat} {w w' : World} (h : Below B w w') (hB : B' ≤ B) : Below B' w w' := h.mono hB
set_option maxRecDepth 100000 in
set_option maxHeartbeats 2000000 in
theorem placesByRef_any (a : Option Addr) (n cap : Nat) (l : List Py) (w : World) (hc : CameP w a l) (hf : ∀ j, j < n → FitP (pnth l j)) (hn : l.length = n) (hm : n ≤ 300) :
    Calls Tryd.prog 47 #[.slice a n cap] w fun e w' => PlacesRet w w' e l n := by
  have HO := Lib.hid (fun h0 => hc.open hn h0)
  have HF := Lib.hid hf
  have hmm := make_mapI
  clear hc hf hn
  go_enter Tryd.func47, Tryd.ntmps47
  go_wp2_with fail
  go_loopw [11] (fun i wr => ∃ k : Nat, k ≤ n ∧ i = .int .i64 k ∧ MapI wr w.heap.size k (lastR l k) (cntR l k) ∧ Below w.heap.size w wr) (fun i _ => n - (intOf i).toNat)
  case atStart => exact ⟨0, Nat.zero_le _, rfl, MapI.made w, (Below.refl _ _).alloc (Nat.le_refl _) _⟩
  case round =>
    obtain ⟨k, hk, rfl, hmap, hnx⟩ := hrel
    have HM := Lib.hid hmap
    have HB := Lib.hid hnx
    clear hmap hnx hmm
    by_cases hlt : k < n
    · have hlt' : (k : Int) < (n : Int) := by omega
      obtain ⟨b, off, rfl, hbl, hcell⟩ := HO.out (by omega)
      obtain ⟨x0, x1, x2, x3⟩ := hcell wr HB.out k hlt
      have hfit := HF.out k hlt
      have HL : Hid (lastR l (k + 1) = fun x => if x = (pnth l k).ref then some (k : Int) else lastR l k x) := rfl
      have HC : Hid (cntR l (k + 1) = if (lastR l k (pnth l k).ref).isSome then cntR l k else cntR l k + 1) := by unfold Hid; rw [cntR, lastR_met]
      have HBX := Lib.hid (bbelow_box wr (.cells #[.string (pnth l k).acc, .string (pnth l k).nam, .int .i64 (pnth l k).mon, .int .i64 (pnth l k).ref] 46))
      obtain ⟨D, hown, hD, hsz⟩ := HM.out.below HBX.out
      have HBW := Lib.hid (HB.out.trans (HBX.out.mono HB.out.size))
      have hkey : keyOf Tryd.prog 3 (.int .i64 (pnth l k).ref) = some (.int .i64 (pnth l k).ref) := keyOf_int_mk Tryd.underlying3 hfit.2.2
      have HD := Lib.hid hD
      have HSZ := Lib.hid hsz
      clear hD hsz hcell hfit HBX
      generalize (pnth l k).ref = rf at *
      generalize (pnth l k).acc = ac at *
      generalize (pnth l k).nam = nm at *
      generalize (pnth l k).mon = mo at *
      go_wp2_with (first
        | (at_mapUpdate; refine wpList_mapUpdate_own _ rfl _ _ _ 71 rfl 3 3 intLaw Tryd.underlying71 (plainElem (H := Unit) Tryd.prog 3) w.heap.size k _ rfl hown (by unfold maxLen; omega) _ _ _ rfl rfl hkey (.lit (.int .i64 (k : Int))) [] (plainElem_int Tryd.underlying3 (WalkArith.wf_i64 (by omega))) ?_; intro w2 hown2 hgrow2))
      go_roundw
      case rel =>
        refine ⟨k + 1, by omega, by go_num, ⟨_, hown2, ?_, ?_⟩, HBW.out.grown hgrow2 HBW.out.size (fun j hj => by cases hj; exact Nat.le_refl _)⟩
        · rw [HL.out]
          exact mapI_put hown.isMap HD.out
        · rw [HC.out, size_put (hown.tidy intLaw), (HD.out rf).1, HSZ.out]
      case measure => simp [intOf]; omega
    · obtain rfl : n = k := by omega
      go_wp2_with fail
      go_ret
      exact ⟨_, rfl, Nat.le_refl _, HM.out, HB.out⟩
theorem py_box {wr w' : World} {ac nm : ByteArray} {mo rf : Int} (hb : Below (wr.alloc (.cells #[.string ac, .string nm, .int .i64 mo, .int .i64 rf] 46)).heap.size (wr.alloc (.cells #[.string ac, .string nm, .int .i64 mo, .int .i64 rf] 46)) w') :
    w'.cell? ⟨wr.heap.size, 0, none⟩ = some (.string ac) ∧ w'.cell? ⟨wr.heap.size, 1, none⟩ = some (.string nm) ∧ w'.cell? ⟨wr.heap.size, 2, none⟩ = some (.int .i64 mo) ∧ w'.cell? ⟨wr.heap.size, 3, none⟩ = some (.int .i64 rf) := by
  have hl : wr.heap.size < (wr.alloc (.cells #[.string ac, .string nm, .int .i64 mo, .int .i64 rf] 46)).heap.size := by simp
  refine ⟨?_, ?_, ?_, ?_⟩ <;> rw [hb.cell (by exact hl), World.cell?_alloc_at (w := wr) _ _ _ _ rfl] <;> rfl
set_option maxRecDepth 100000 in
set_option maxHeartbeats 2000000 in
theorem checkPayments_any (a : Option Addr) (n cap : Nat) (l : List Py) (w : World) (ht : Tab w) (hc : CameP w a l) (hf : ∀ j, j < n → FitP (pnth l j)) (hn : l.length = n) (hm : n ≤ 9223372036854775807) :
    Calls Tryd.prog 36 #[.slice a n cap] w fun e w' => e = .returned (.int .i64 (payE l n)) ∧ Below w.heap.size w w' := by
  have HT := Lib.hid ht
  have HCP := Lib.hid hc
  have HO := Lib.hid (fun h0 => hc.open hn h0)
  have HF := Lib.hid hf
  have HN := Lib.hid hn
  clear hc hf hn ht
  by_cases h300 : 300 < n
  · have HE := Lib.hid (payE_many (l := l) h300)
    have h300' : (300 : Int) < (n : Int) := by omega
    go_enter Tryd.func36, Tryd.ntmps36
    go_wp2_with fail
    go_ret
    exact ⟨tret_int HE.out.symm, Below.refl _ _⟩
  · have h300' : ¬ ((300 : Int) < (n : Int)) := by omega
    have HP := Lib.hid (fun w hc => placesByRef_any a n cap l w hc HF.out HN.out (by omega))
    go_enter Tryd.func36, Tryd.ntmps36
    go_wp2_with fail
    go_loopw [10] (fun i wr => ∃ k : Nat, k ≤ n ∧ i = .int .i64 k ∧ (∀ j, j < k → wrongP (pnth l j) = 0) ∧ Below w.heap.size w wr) (fun i _ => n - (intOf i).toNat)
    case atStart => exact ⟨0, Nat.zero_le _, rfl, fun j hj => by omega, Below.refl _ _⟩
    case round =>
      obtain ⟨k, hk, rfl, hall, hb⟩ := hrel
      have HA := Lib.hid hall
      have HB := Lib.hid hb
      clear hall hb
      by_cases hlt : k < n
      · have hlt' : (k : Int) < (n : Int) := by omega
        obtain ⟨b, off, rfl, hbl, hcell⟩ := HO.out (by omega)
        obtain ⟨x0, x1, x2, x3⟩ := hcell wr HB.out k hlt
        have hfit := HF.out k hlt
        have HNF := Lib.hid hfit.1.2
        have HEA := Lib.hid (fun h => payE_at (l := l) (n := n) (k := k) h300 HA.out h hlt)
        have HNX : Hid (wrongP (pnth l k) = 0 → ∀ j, j < k + 1 → wrongP (pnth l j) = 0) := fun h j hj => by
          by_cases e : j = k
          · subst e; exact h
          · exact HA.out j (by omega)
        have HWA := Lib.hid (@wrongP_acc (pnth l k))
        have HWN := Lib.hid (@wrongP_nam (pnth l k))
        have HWR := Lib.hid (@wrongP_rng (pnth l k))
        have HWO := Lib.hid (@wrongP_ok (pnth l k))
        have HBX := Lib.hid (bbelow_box wr (.cells #[.string (pnth l k).acc, .string (pnth l k).nam, .int .i64 (pnth l k).mon, .int .i64 (pnth l k).ref] 46))
        have HBW := Lib.hid (HB.out.trans (HBX.out.mono HB.out.size))
        have HTW := Lib.hid (HT.out.below HBW.out)
        clear hcell hfit hbl
        generalize wrongP (pnth l k) = wr' at *
        generalize (pnth l k).ref = rf at *
        generalize (pnth l k).acc = ac at *
        generalize (pnth l k).nam = nm at *
        generalize (pnth l k).mon = mo at *
        go_wp2_with fail
        refine (IsAccount_any ac _ HTW.out).mono ?_
        rintro e w1 ⟨rfl, hb1⟩
        have HBX1 := Lib.hid (HBW.out.trans (hb1.mono HBW.out.size))
        have HQ1 := Lib.hid hb1
        obtain ⟨y0, y1, y2, y3⟩ := py_box hb1
        clear hb1 x0 x1 x2 x3
        cases ha : accB ac
        · have HE : Hid (payE l n = 1) := by have := HWA.out ha; unfold Hid; rw [HEA.out (by rw [this]; decide), this]
          go_wp2_with fail
          go_ret
          exact ⟨tret_int HE.out.symm, HBX1.out⟩
        · go_wp2_with fail
          clear y0 y1 y2 y3
          refine (isName_any nm _ HNF.out).mono ?_
          rintro e w2 ⟨rfl, hb2⟩
          have HBX2 := Lib.hid (HBX1.out.trans (hb2.mono HBX1.out.size))
          obtain ⟨y0, y1, y2, y3⟩ := py_box (HQ1.out.trans (hb2.mono HQ1.out.size))
          clear hb2
          cases hnm : nameB nm
          · have HE : Hid (payE l n = 1) := by have := HWN.out hnm; unfold Hid; rw [HEA.out (by rw [this]; decide), this]
            go_wp2_with fail
            go_ret
            exact ⟨tret_int HE.out.symm, HBX2.out⟩
          · by_cases hok : (1 ≤ mo ∧ mo ≤ 1000000000000) ∧ 0 ≤ rf ∧ rf ≤ 999999
            · have HOK := Lib.hid (HNX.out (HWO.out ha hnm hok))
              have m1 : decide (mo < 1) = false := decide_eq_false (by omega)
              have m2 : decide (1000000000000 < mo) = false := decide_eq_false (by omega)
              have m3 : decide (rf < 0) = false := decide_eq_false (by omega)
              have m4 : decide (999999 < rf) = false := decide_eq_false (by omega)
              go_wp2_with fail
              go_roundw
              case rel => exact ⟨k + 1, by omega, by go_num, HOK.out, HBX2.out⟩
              case measure => simp [intOf]; omega
            · have HE : Hid (payE l n = 3) := by have := HWR.out ha hnm hok; unfold Hid; rw [HEA.out (by rw [this]; decide), this]
              by_cases m1 : mo < 1
              · have m1B : decide (mo < 1) = true := decide_eq_true m1
                go_wp2_with fail
                go_ret
                exact ⟨tret_int HE.out.symm, HBX2.out⟩
              · have m1B : decide (mo < 1) = false := decide_eq_false m1
                by_cases m2 : 1000000000000 < mo
                · have m2B : decide (1000000000000 < mo) = true := decide_eq_true m2
                  go_wp2_with fail
                  go_ret
                  exact ⟨tret_int HE.out.symm, HBX2.out⟩
                · have m2B : decide (1000000000000 < mo) = false := decide_eq_false m2
                  by_cases m3 : rf < 0
                  · have m3B : decide (rf < 0) = true := decide_eq_true m3
                    go_wp2_with fail
                    go_ret
                    exact ⟨tret_int HE.out.symm, HBX2.out⟩
                  · have m3B : decide (rf < 0) = false := decide_eq_false m3
                    have m4 : 999999 < rf := by omega
                    have m4B : decide (999999 < rf) = true := decide_eq_true m4
                    go_wp2_with fail
                    go_ret
                    exact ⟨tret_int HE.out.symm, HBX2.out⟩
      · obtain rfl : n = k := by omega
        have HEA := Lib.hid (payE_all h300 HA.out)
        have HCD := Lib.hid (cntR_dup l n)
        go_wp2_with fail
        refine (HP.out _ (HCP.out.below HB.out)).mono ?_
        rintro e w1 ⟨mb, rfl, _, ⟨D, hown, _, hsz⟩, hb1⟩
        have HB1 := Lib.hid (HB.out.trans (hb1.mono HB.out.size))
        have HSZ := Lib.hid hsz
        clear hb1
        cases hd : dupB l n
        · rw [hd, if_neg (by simp)] at HEA
          have hlt2 : ¬ ((Maps.size D : Int) < (n : Int)) := by
            have h1 := HCD.out.2
            rw [hd] at h1
            have h2 := HCD.out.1
            rw [hsz]
            have : ¬ cntR l n < n := fun h => by have := h1.1 h; cases this
            omega
          have HE := HEA
          clear hsz
          go_wp2_with (first | (at_len; refine wpList_len_own _ rfl _ 71 rfl 3 3 Tryd.underlying71 _ _ _ D rfl hown ?_))
          go_ret
          exact ⟨tret_int HE.out.symm, HB1.out⟩
        · rw [hd, if_pos rfl] at HEA
          have hlt2 : (Maps.size D : Int) < (n : Int) := by
            have h1 := HCD.out.2.2 hd
            rw [hsz]
            omega
          have HE := HEA
          clear hsz
          go_wp2_with (first | (at_len; refine wpList_len_own _ rfl _ 71 rfl 3 3 Tryd.underlying71 _ _ _ D rfl hown ?_))
          go_ret
          exact ⟨tret_int HE.out.symm, HB1.out⟩
end Go.Proofs.YtdfgkngfpedgdaaDoor
