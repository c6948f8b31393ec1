/-
  Promise U1: the walks of sum, of the places by names, and of check: what is wrong with a sheet's amounts ahead of how long its lines are.
-/
import Derived.Test.YtmchanddfodhaaaDoorShBase
import Derived.Maps.OwnSet
import Derived.StringKeys
namespace Go.Proofs.YtmchanddfodhaaaDoor
open Go.RowKit Go.Maps Go.WideMaps Mny

theorem strLaw : Keyed Tryd.prog 9 := string_keyed Tryd.underlying9
theorem make_map (k : Int) (w : World) : (Instr.makeMap 65 (some (.int .i64 k))).run Tryd.prog w = .ok (.map (some w.heap.size)) (w.alloc (.map #[] 0)) := by
  simp [Instr.makeMap, run_underlying Tryd.underlying65, asInt, asIntOf, Result.andThen]
theorem key_of {s : ByteArray} (h : s.size ≤ maxLen) : keyOf Tryd.prog 9 (.string s) = some (.string s.data.toList) := keyOf_string_mk Tryd.underlying9 h
/-- The map in block b: which names are its keys, and how many there are. -/
def MapC (w : World) (b n : Nat) (g : ByteArray → Bool) (c : Nat) : Prop := ∃ D : DataW Unit, w.ownsMap Tryd.prog 9 (plainElem (H := Unit) Tryd.prog 3) b n D ∧ (∀ s : ByteArray, Maps.has D (.string s.data.toList) = g s) ∧ Maps.size D = c
theorem MapC.lt {w : World} {b n c : Nat} {g : ByteArray → Bool} (h : MapC w b n g c) : b < w.heap.size := by
  obtain ⟨D, ⟨es, clock, hb, _⟩, _⟩ := h
  by_cases hlt : b < w.heap.size
  · exact hlt
  · rw [Array.getElem?_eq_none (by omega)] at hb
    cases hb
theorem MapC.below {w w' : World} {b n c : Nat} {g : ByteArray → Bool} (h : MapC w b n g c) (hb : Below w.heap.size w w') : MapC w' b n g c := by
  have hlt := h.lt
  obtain ⟨D, ⟨es, clock, hbk, h3⟩, h2⟩ := h
  exact ⟨D, ⟨es, clock, by rw [hb.block b hlt]; exact hbk, h3⟩, h2⟩
theorem MapC.made (w : World) : MapC (w.alloc (.map #[] 0)) w.heap.size 0 (fun _ => false) 0 :=
  ⟨.map [], World.ownsMap_made _ _ _ _, fun x => by simp [Maps.has], by simp [Maps.size]⟩
theorem mapC_put {D : DataW Unit} {g : ByteArray → Bool} {nm : ByteArray} {v : Int} (hm : IsMap D) (h : ∀ s : ByteArray, Maps.has D (.string s.data.toList) = g s) (s : ByteArray) :
    Maps.has (D.put (.string nm.data.toList) (.lit (.int .i64 v))) (.string s.data.toList) = (if nm.data = s.data then true else g s) := by
  by_cases e : nm.data = s.data
  · rw [if_pos e, ← e]
    exact has_put_same hm (show WideAt.IsKeyLit (.string nm.data.toList) from trivial) _
  · rw [if_neg e, has_put_other (by intro q; injection q with q; exact e (Array.toList_inj.1 q.symm))]
    exact h s
set_option maxHeartbeats 1000000 in
theorem nameOf_any (s : ByteArray) (m : Int) (w : World) : Calls Tryd.prog 35 #[.agg #[.string s, .int .i64 m]] w fun e w' => e = .returned (.string s) ∧ Below w.heap.size w w' := by
  go_enter Tryd.func35, Tryd.ntmps35
  go_wp2_with fail
  go_ret
  exact ⟨rfl, kbelow_box _ _⟩
def PlcRet (w w' : World) (e : Ending) (l : List Am) (n : Nat) : Prop := ∃ b, e = .returned (.map (some b)) ∧ MapC w' b n (fun s => (lastN (nmA l) n s).isSome) (cntN (nmA l) n) ∧ Below w.heap.size w w'
set_option maxRecDepth 100000 in
set_option maxHeartbeats 2000000 in
theorem places_any (a : Option Addr) (n cap : Nat) (l : List Am) (w : World) (hc : CameA w a l) (hf : NamesFit l) (hn : l.length = n) (hm : n ≤ 40) :
    Calls Tryd.prog 34 #[.slice a n cap, .func (.func 35) #[] #[]] w fun e w' => PlcRet w w' e l n := by
  have HO := Lib.hid (fun h0 => hc.open hn h0)
  have HF : Hid (∀ j, j < n → (anth l j).name.size ≤ maxLen) := fun j hj => hf j (by omega)
  have hmm := make_map
  clear hc hf
  go_enter Tryd.func34, Tryd.ntmps34
  go_wp2_with fail
  go_loopw [13] (fun i wr => ∃ k : Nat, k ≤ n ∧ i = .int .i64 k ∧ MapC wr w.heap.size k (fun s => (lastN (nmA l) k s).isSome) (cntN (nmA l) k) ∧ Below w.heap.size w wr) (fun i _ => n - (intOf i).toNat)
  case atStart => exact ⟨0, Nat.zero_le _, rfl, MapC.made w, (Below.refl _ _).alloc (Nat.le_refl _) _⟩
  case round =>
    obtain ⟨k, hk, rfl, hmap, hnx⟩ := hrel
    have HM := Lib.hid hmap
    have HB := Lib.hid hnx
    clear hmap hnx hmm
    by_cases hlt : k < n
    · have hlt' : (k : Int) < (n : Int) := by omega
      obtain ⟨b, off, rfl, hcell⟩ := HO.out (by omega)
      obtain ⟨x0, x1⟩ := hcell wr HB.out k hlt
      have HL : Hid (∀ s, (lastN (nmA l) (k + 1) s).isSome = if (anth l k).name.data = s.data then true else (lastN (nmA l) k s).isSome) := fun s => by
        rw [lastN]
        show (if (anth l k).name.data = s.data then some k else lastN (nmA l) k s).isSome = _
        split <;> rfl
      have HC : Hid (cntN (nmA l) (k + 1) = if (lastN (nmA l) k (anth l k).name).isSome then cntN (nmA l) k else cntN (nmA l) k + 1) := rfl
      have HBX := Lib.hid (kbelow_box wr (.cells #[.string (anth l k).name, .int .i64 (anth l k).mon] 45))
      have hfit := HF.out k hlt
      have hkey := key_of hfit
      clear hcell
      generalize (anth l k).name = nm at *
      generalize (anth l k).mon = mo at *
      go_wp2_with fail
      refine (nameOf_any nm mo _).mono ?_
      rintro e w1 ⟨rfl, hb1⟩
      obtain ⟨D, hown, hD, hsz⟩ := (HM.out.below HBX.out).below hb1
      have HBW := Lib.hid (HB.out.trans ((HBX.out.trans (hb1.mono HBX.out.size)).mono HB.out.size))
      have HD := Lib.hid hD
      have HSZ := Lib.hid hsz
      clear hD hsz hb1 HBX
      go_wp2_with (first
        | (at_mapUpdate; refine wpList_mapUpdate_own _ rfl _ _ _ 65 rfl 9 3 strLaw Tryd.underlying65 (plainElem (H := Unit) Tryd.prog 3) w.heap.size k _ rfl hown (by unfold maxLen; omega) _ _ _ rfl rfl hkey (.lit (.int .i64 (k : Int))) [] (plainElem_int Tryd.underlying3 (WalkArith.wf_i64 (by omega))) ?_; intro w2 hown2 hgrow2))
      go_roundw
      case rel =>
        refine ⟨k + 1, by omega, by go_num, ⟨_, hown2, fun s => ?_, ?_⟩, HBW.out.grown hgrow2 HBW.out.size (fun j hj => by cases hj; exact Nat.le_refl _)⟩
        · exact (mapC_put hown.isMap HD.out s).trans (HL.out s).symm
        · rw [HC.out, size_put (hown.tidy strLaw), HD.out nm, HSZ.out]
      case measure => simp [intOf]; omega
    · obtain rfl : n = k := by omega
      go_wp2_with fail
      go_ret
      exact ⟨_, rfl, HM.out, HB.out⟩
set_option maxRecDepth 100000 in
set_option maxHeartbeats 1000000 in
theorem sum_any (a : Option Addr) (n cap : Nat) (l : List Am) (w : World) (hc : CameA w a l) (hn : l.length = n) (hm : n ≤ 40) (hM : ∀ j, j < n → monB (anth l j).mon = true) :
    Calls Tryd.prog 18 #[.slice a n cap] w fun e w' => e = .returned (.int .i64 (sumA l n)) ∧ Below w.heap.size w w' := by
  have HO := Lib.hid (fun h0 => hc.open hn h0)
  have HM := Lib.hid hM
  clear hc hM
  go_enter Tryd.func18, Tryd.ntmps18
  go_wp2_with fail
  go_loopw [3, 8] (fun s i wr => ∃ k : Nat, k ≤ n ∧ s = .int .i64 (sumA l k) ∧ i = .int .i64 k ∧ Below w.heap.size w wr) (fun _ i _ => n - (intOf i).toNat)
  case atStart => exact ⟨0, Nat.zero_le _, rfl, rfl, Below.refl _ _⟩
  case round =>
    obtain ⟨k, hk, rfl, rfl, hb⟩ := hrel
    have HB := Lib.hid hb
    clear hb
    by_cases hlt : k < n
    · have hlt' : (k : Int) < (n : Int) := by omega
      obtain ⟨b, off, rfl, hcell⟩ := HO.out (by omega)
      obtain ⟨x0, x1⟩ := hcell wr HB.out k hlt
      obtain ⟨s0, s1⟩ := sumA_bd (l := l) (k := k) fun j hj => HM.out j (by omega)
      have hmo : -1000000000000 ≤ (anth l k).mon ∧ (anth l k).mon ≤ 1000000000000 := of_decide_eq_true (HM.out k hlt)
      obtain ⟨m0, m1⟩ := hmo
      have HS : Hid (sumA l (k + 1) = sumA l k + (anth l k).mon) := rfl
      have HBX := Lib.hid (HB.out.alloc HB.out.size (.cells #[.string (anth l k).name, .int .i64 (anth l k).mon] 45))
      clear hcell
      generalize (anth l k).name = nm at *
      generalize (anth l k).mon = mo at *
      generalize sumA l k = sk at *
      go_wp2_with fail
      go_roundw
      case rel => exact ⟨k + 1, by omega, by rw [HS.out], by go_num, HBX.out⟩
      case measure => simp [intOf]; omega
    · obtain rfl : n = k := by omega
      go_wp2_with fail
      go_ret
      exact ⟨rfl, HB.out⟩
theorem says_bool {s : ByteArray} {w w' : World} {e : Ending} (h : Says (NameP s) w e w') : e = .returned (.bool (namB s)) ∧ Below w.heap.size w w' := by
  obtain ⟨b, rfl, hb, hbel⟩ := h
  refine ⟨?_, hbel⟩
  congr 2
  unfold namB
  cases b
  · exact (decide_eq_false fun h => by have := hb.2 h; cases this).symm
  · exact (decide_eq_true (hb.1 rfl)).symm
theorem am_box {wr w' : World} {nm : ByteArray} {mo : Int} (hb : Below (wr.alloc (.cells #[.string nm, .int .i64 mo] 45)).heap.size (wr.alloc (.cells #[.string nm, .int .i64 mo] 45)) w') :
    w'.cell? ⟨wr.heap.size, 0, none⟩ = some (.string nm) ∧ w'.cell? ⟨wr.heap.size, 1, none⟩ = some (.int .i64 mo) := by
  have hl : wr.heap.size < (wr.alloc (.cells #[.string nm, .int .i64 mo] 45)).heap.size := by simp
  refine ⟨?_, ?_⟩ <;> rw [hb.cell (by exact hl), World.cell?_alloc_at (w := wr) _ _ _ _ rfl] <;> rfl
set_option maxRecDepth 100000 in
set_option maxHeartbeats 4000000 in
theorem check_any (a : Option Addr) (n cap : Nat) (l : List Am) (x : Int) (w : World) (hc : CameA w a l) (hf : NamesFit l) (hn : l.length = n) (hm : n ≤ 9223372036854775807) :
    Calls Tryd.prog 16 #[.slice a n cap, .int .i64 x] w fun e w' => e = .returned (.int .i64 (chkE l n x)) ∧ Below w.heap.size w w' := by
  have HC := Lib.hid hc
  have HN := Lib.hid hn
  have HO := Lib.hid (fun h0 => hc.open hn h0)
  have HF := Lib.hid hf
  clear hc hf hn
  cases hw : widB x
  · have HE := Lib.hid (chkE_wid (l := l) (n := n) hw)
    have hx : ¬ (20 ≤ x ∧ x ≤ 60) := of_decide_eq_false hw
    by_cases h20 : x < 20
    · go_enter Tryd.func16, Tryd.ntmps16
      go_wp2_with fail
      go_ret
      exact ⟨kret_int HE.out.symm, Below.refl _ _⟩
    · have h60 : 60 < x := by omega
      go_enter Tryd.func16, Tryd.ntmps16
      go_wp2_with fail
      go_ret
      exact ⟨kret_int HE.out.symm, Below.refl _ _⟩
  · have hx : 20 ≤ x ∧ x ≤ 60 := of_decide_eq_true hw
    obtain ⟨h20, h60⟩ := hx
    have HW := Lib.hid hw
    clear hw
    by_cases h30 : 30 < n
    · have h30' : (30 : Int) < (n : Int) := by omega
      have HE := Lib.hid (chkE_many (l := l) HW.out h30)
      go_enter Tryd.func16, Tryd.ntmps16
      go_wp2_with fail
      go_ret
      exact ⟨kret_int HE.out.symm, Below.refl _ _⟩
    · have h30' : ¬ ((30 : Int) < (n : Int)) := by omega
      have HP := Lib.hid (fun w hc => places_any a n cap l w hc HF.out HN.out (by omega))
      have HSM := Lib.hid (fun w hc hM => sum_any a n cap l w hc HN.out (by omega) hM)
      go_enter Tryd.func16, Tryd.ntmps16
      go_wp2_with fail
      go_loopw [20] (fun i wr => ∃ k : Nat, k ≤ n ∧ i = .int .i64 k ∧ (∀ j, j < k → wrA (anth l j) = 0) ∧ Below w.heap.size w wr) (fun i _ => n - (intOf i).toNat)
      case atStart => exact ⟨0, Nat.zero_le _, rfl, fun j hj => by omega, Below.refl _ _⟩
      case round =>
        obtain ⟨k, hk, rfl, hall, hb⟩ := hrel
        have HA := Lib.hid hall
        have HB := Lib.hid hb
        clear hall hb
        by_cases hlt : k < n
        · have hlt' : (k : Int) < (n : Int) := by omega
          obtain ⟨b, off, rfl, hcell⟩ := HO.out (by omega)
          obtain ⟨x0, x1⟩ := hcell wr HB.out k hlt
          have HEA := Lib.hid (fun h => chkE_at (l := l) (n := n) (k := k) (x := x) HW.out h30 HA.out h hlt)
          have HNX : Hid (wrA (anth l k) = 0 → ∀ j, j < k + 1 → wrA (anth l j) = 0) := fun h j hj => by
            by_cases e : j = k
            · subst e; exact h
            · exact HA.out j (by omega)
          have HW1 := Lib.hid (@wrA_nam (anth l k))
          have HW2 := Lib.hid (@wrA_sum (anth l k))
          have HW3 := Lib.hid (@wrA_mon (anth l k))
          have HW4 := Lib.hid (@wrA_ok (anth l k))
          have HBX := Lib.hid (kbelow_box wr (.cells #[.string (anth l k).name, .int .i64 (anth l k).mon] 45))
          clear hcell
          generalize wrA (anth l k) = wk at *
          generalize (anth l k).name = nm at *
          generalize (anth l k).mon = mo at *
          go_wp2_with fail
          refine (IsName_any nm _).mono ?_
          intro e w1 hs
          obtain ⟨rfl, hb1⟩ := says_bool hs
          obtain ⟨y0, y1⟩ := am_box hb1
          have HB1 := Lib.hid (HB.out.trans ((HBX.out.trans (hb1.mono HBX.out.size)).mono HB.out.size))
          clear hs hb1 HBX x0 x1
          cases hnb : namB nm
          · obtain rfl := HW1.out hnb
            have HE := Lib.hid (HEA.out (by decide))
            clear hnb
            go_wp2_with fail
            go_ret
            exact ⟨kret_int HE.out.symm, HB1.out⟩
          · cases hsb : (nm.toList == [115, 117, 109])
            · cases hmb : monB mo
              · obtain rfl := HW3.out hnb hsb hmb
                have HE := Lib.hid (HEA.out (by decide))
                clear hnb
                go_wp2_with (go_at_call 33; refine (isMoney_any _ _).mono ?_; rintro e w' ⟨rfl, h'⟩; subst w'; rw [hmb])
                go_ret
                exact ⟨kret_int HE.out.symm, HB1.out⟩
              · obtain rfl := HW4.out hnb hsb hmb
                clear hnb
                go_wp2_with (go_at_call 33; refine (isMoney_any _ _).mono ?_; rintro e w' ⟨rfl, h'⟩; subst w'; rw [hmb])
                go_roundw
                case rel => exact ⟨k + 1, by omega, by go_num, HNX.out (by first | trivial | rfl), HB1.out⟩
                case measure => simp [intOf]; omega
            · obtain rfl := HW2.out hsb
              have HE := Lib.hid (HEA.out (by decide))
              clear hnb
              go_wp2_with fail
              go_ret
              exact ⟨kret_int HE.out.symm, HB1.out⟩
        · obtain rfl : n = k := by omega
          have HER := Lib.hid (chkE_rest (l := l) (x := x) HW.out h30 HA.out)
          have HTW := Lib.hid (cntN_tw (nmA l) n)
          have HM : Hid (∀ j, j < n → monB (anth l j).mon = true) := fun j hj => (wrA_zero (HA.out j hj)).2.2
          go_wp2_with fail
          refine (HP.out _ (HC.out.below HB.out)).mono ?_
          rintro e w1 ⟨bm, rfl, hmap, hb1⟩
          have HB1 := Lib.hid (HB.out.trans (hb1.mono HB.out.size))
          obtain ⟨D, hown, _, hsz⟩ := hmap
          have HSZ := Lib.hid hsz
          clear hb1 hsz
          obtain ⟨cn, hcn⟩ : ∃ cn, cntN (nmA l) n = cn := ⟨_, rfl⟩
          rw [hcn] at HTW HSZ
          have HCN := Lib.hid hcn
          clear hcn
          cases htw : twB (nmA l) n
          · rw [htw] at HTW HER
            have hlt2 : ¬ cn < n := of_decide_eq_false HTW.out
            have hltI : ¬ ((cn : Int) < (n : Int)) := by omega
            have HS2 := Lib.hid (HSM.out _ (HC.out.below HB1.out) HM.out)
            clear htw
            go_wp2_with (first | (at_len; refine wpList_len_own _ rfl _ 65 rfl 9 3 Tryd.underlying65 _ _ _ D rfl hown ?_; rw [HSZ.out]))
            refine HS2.out.mono ?_
            rintro e w2 ⟨rfl, hb2⟩
            have HB2 := Lib.hid (HB1.out.trans (hb2.mono HB1.out.size))
            clear hb2
            cases hmb : monB (sumA l n)
            · rw [hmb] at HER
              go_wp2_with (go_at_call 33; refine (isMoney_any _ _).mono ?_; rintro e w' ⟨rfl, h'⟩; subst w'; rw [hmb])
              go_ret
              exact ⟨kret_int (by rw [HER.out]; rfl), HB2.out⟩
            · rw [hmb] at HER
              go_wp2_with (go_at_call 33; refine (isMoney_any _ _).mono ?_; rintro e w' ⟨rfl, h'⟩; subst w'; rw [hmb])
              go_ret
              exact ⟨kret_int (by rw [HER.out]; rfl), HB2.out⟩
          · rw [htw] at HTW HER
            have hlt2 : cn < n := of_decide_eq_true HTW.out
            have hltI : (cn : Int) < (n : Int) := by omega
            clear htw
            go_wp2_with (first | (at_len; refine wpList_len_own _ rfl _ 65 rfl 9 3 Tryd.underlying65 _ _ _ D rfl hown ?_; rw [HSZ.out]))
            go_ret
            exact ⟨kret_int (by rw [HER.out]; rfl), HB1.out⟩
end Go.Proofs.YtmchanddfodhaaaDoor
