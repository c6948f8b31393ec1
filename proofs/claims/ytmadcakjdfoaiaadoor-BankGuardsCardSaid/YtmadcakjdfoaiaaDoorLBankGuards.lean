/-
  Promise P5: the walk of the law BankGuards: it answers true at every input.
-/
import Derived.Test.YtmadcakjdfoaiaaDoorBGrd
import Derived.Test.YtmadcakjdfoaiaaDoorLBankRejects
import Derived.Laws.IdiomStrings
import Derived.Deep.RegionWith
namespace Go.Proofs.YtmadcakjdfoaiaaDoor
open Go.RowKit

theorem wf_range {c : Int} (h : (Lit.int .i64 c).wf = true) : -9223372036854775808 ≤ c ∧ c ≤ 9223372036854775807 := by
  simp only [Lit.wf, Bool.and_eq_true, decide_eq_true_eq] at h
  exact h
/-- What choose picks of n. -/
def chooseN (c : Int) (n : Nat) : Nat := ((if c < 0 then -(c + 1) else c) % (n : Int)).toNat
theorem chooseN_lt (c : Int) {n : Nat} (h : 0 < n) : chooseN c n < n := by
  unfold chooseN
  have h1 := Int.emod_nonneg (if c < 0 then -(c + 1) else c) (show (n : Int) ≠ 0 by omega)
  have h2 := Int.emod_lt_of_pos (if c < 0 then -(c + 1) else c) (show 0 < (n : Int) by omega)
  omega
theorem choose_any (c : Int) (n : Nat) (w : World) (hc : -9223372036854775808 ≤ c ∧ c ≤ 9223372036854775807) (hn : 0 < n) (hm : n ≤ 1000000) :
    Calls Tryd.prog 26 #[.int .i64 c, .int .i64 (n : Int)] w fun e w' => e = .returned (.int .i64 (chooseN c n : Int)) ∧ w' = w := by
  obtain ⟨r, hr⟩ : ∃ r, chooseN c n = r := ⟨_, rfl⟩
  rw [hr]
  unfold chooseN at hr
  have hn0 : (n : Int) ≠ 0 := by omega
  by_cases h : c < 0
  · rw [if_pos h] at hr
    have h1 := Int.emod_nonneg (-(c + 1)) hn0
    have hw1 : IntKind.i64.wrap (c + 1) = c + 1 := IntWalk.i64_in _ (by omega)
    have hw2 : IntKind.i64.wrap (-(c + 1)) = -(c + 1) := IntWalk.i64_in _ (by omega)
    have hw3 : IntKind.i64.wrap (-(c + 1)) = -(c + 1) := hw2
    have hmod : (-(c + 1)).tmod (n : Int) = (r : Int) := by rw [Int.tmod_eq_emod_of_nonneg (by omega)]; omega
    clear hr h1
    go_enter Tryd.func26, Tryd.ntmps26
    go_wp2_with fail
    go_ret
    exact ⟨rfl, rfl⟩
  · rw [if_neg h] at hr
    have h1 := Int.emod_nonneg c hn0
    have hd : decide (c < 0) = false := decide_eq_false h
    have hmod : c.tmod (n : Int) = (r : Int) := by rw [Int.tmod_eq_emod_of_nonneg (by omega)]; omega
    clear hr h1
    go_enter Tryd.func26, Tryd.ntmps26
    go_wp2_with fail
    go_ret
    exact ⟨rfl, rfl⟩
theorem round_all {P : Nat → Prop} {S k0 : Nat} (h : 1 < S) (hk : k0 < S) (hP : ∀ q, q < S → P ((k0 + q) % S)) : P 1 := by
  by_cases e : k0 ≤ 1
  · have := hP (1 - k0) (by omega)
    rwa [show k0 + (1 - k0) = 1 by omega, Nat.mod_eq_of_lt h] at this
  · have := hP (S + 1 - k0) (by omega)
    rwa [show k0 + (S + 1 - k0) = S + 1 by omega, Nat.add_mod_left, Nat.mod_eq_of_lt h] at this
/-- What '[]byte(s)' lays. -/
theorem bytes_of (s : ByteArray) (w : World) : ∃ cap W, (convert 9 51 (.string s)).run Tryd.prog w = .ok (.slice (some ⟨w.heap.size, 0, none⟩) s.size cap) W ∧ s.size ≤ cap ∧ Below w.heap.size w W ∧ W.heap.size = w.heap.size + 1 ∧ ∀ j (hj : j < s.size), W.cell? ⟨w.heap.size, j, none⟩ = some (.int .u8 (s[j].toNat : Int)) ∧ W.frozen? ⟨w.heap.size, j, none⟩ = false := by
  refine ⟨_, _, run_bytes_of_string w 9 51 5 s Tryd.underlying9 Tryd.underlying51 Tryd.underlying5, ?_, ?_, by show (w.heap.push _).size = _; simp, fun j hj => ?_⟩
  · have := grownCap_ge w s.size 0 5
    omega
  · have h := (Below.refl w.heap.size w).drew.alloc (Nat.le_refl _) (.cells (bytesRow s (grownCap w s.size 0 5)) 5 ((bytesRow s (grownCap w s.size 0 5)).size, (bytesRow s (grownCap w s.size 0 5)).size + 1))
    exact h
  · have hb := bytesRow_at s (grownCap w s.size 0 5) j hj
    have hlt : j < (bytesRow s (grownCap w s.size 0 5)).size := (Array.getElem?_eq_some_iff.1 hb).1
    generalize bytesRow s (grownCap w s.size 0 5) = R at *
    have hh : (w.drew.alloc (.cells R 5 (R.size, R.size + 1))).heap[w.heap.size]? = some (.cells R 5 (R.size, R.size + 1)) := (MapKept.heap_alloc w.drew _).1
    have key : ∀ V : World, V.heap[w.heap.size]? = some (.cells R 5 (R.size, R.size + 1)) → V.cell? ⟨w.heap.size, j, none⟩ = R[j]? ∧ V.frozen? ⟨w.heap.size, j, none⟩ = false := fun V hV => by
      refine ⟨by simp [World.cell?, hV], ?_⟩
      simp [World.frozen?, hV]
      omega
    exact ⟨(key _ hh).1.trans hb, (key _ hh).2⟩
/-- The bytes behind one that is another one. -/
theorem back_of (s : ByteArray) (g cap k : Nat) (z : Int) (W : World) (hz : 0 ≤ z ∧ z < 256) (hk : k < s.size) (hW : ∀ j (hj : j < s.size), W.cell? ⟨g, j, none⟩ = some (.int .u8 (s[j].toNat : Int))) :
    ∃ s', (∀ V : World, (∀ p, V.cell? p = (W.setCell ⟨g, k, none⟩ (.int .u8 z)).cell? p) → (convert 51 9 (.slice (some ⟨g, 0, none⟩) s.size cap)).run Tryd.prog V = .ok (.string s') V) ∧ s'.size = s.size ∧ bt s' k = z ∧ ∀ j, j ≠ k → bt s' j = bt s j := by
  have hlen : s.data.toList.length = s.size := (size_toList s).symm
  have hget : ∀ j (hj : j < s.size), s.data.toList[j]? = some s[j] := fun j hj => by
    rw [List.getElem?_eq_getElem (by omega)]
    rfl
  refine ⟨tx (s.data.toList.set k (UInt8.ofNat z.toNat)), fun V hV => ?_, ?_, ?_, fun j hj => ?_⟩
  · have hl2 : (s.data.toList.set k (UInt8.ofNat z.toNat)).length = s.size := by rw [List.length_set]; exact hlen
    have := run_convert_bytes_back (P := Tryd.prog) V 51 9 5 ⟨g, 0, none⟩ cap (s.data.toList.set k (UInt8.ofNat z.toNat)) Tryd.underlying51 Tryd.underlying5 Tryd.underlying9 (fun j hj => by
      rw [Addr.add_lit, Nat.zero_add, hV]
      rw [hl2] at hj
      by_cases e : k = j
      · subst e
        rw [World.cell?_setCell_same _ _ _ (hW k hj)]
        rw [List.getElem_set_self, UInt8.toNat_ofNat']
        congr 2
        omega
      · rw [World.cell?_setCell_other (h := fun h => by injection h; omega), hW j hj]
        rw [List.getElem_set_ne e]
        rfl)
    rw [hl2] at this
    exact this
  · rw [tx_size, List.length_set]; exact hlen
  · rw [bt_tx (x := UInt8.ofNat z.toNat) (by rw [List.getElem?_set_self (by omega)]), UInt8.toNat_ofNat']
    omega
  · have := bt_same (l := s.data.toList.set k (UInt8.ofNat z.toNat)) (m := s.data.toList) (i := j) (j := j) (by rw [List.getElem?_set_ne (by omega)])
    rw [this, tx_data]
set_option maxRecDepth 100000 in
set_option maxHeartbeats 4000000 in
theorem walk_bankGuards {w : World} (day : Int) (_ : (Lit.int .i64 day).wf = true) (a : Option Addr) (n cap : Nat) (l : List Py) (hc : CameP w a l) (hn : l.length = n) (hm : n ≤ maxLen) (hf : ∀ j, j < n → FitP (pnth l j)) (at' : Int) (hat : (Lit.int .i64 at').wf = true) (oth : Int) (hoth : (Lit.int .i64 oth).wf = true) (ht : Tab w) :
    Calls Tryd.prog 8 #[.int .i64 day, .slice a n cap, .int .i64 at', .int .i64 oth] w fun e w' => e = .returned (.bool true) ∧ Below w.heap.size w w' := by
  have hmI : n ≤ 9223372036854775807 := by unfold maxLen at hm; omega
  have HK := Lib.hid (fun w ht hc => Print_any day a n cap l w ht hc hf hn hmI)
  have HT := Lib.hid ht
  have HC := Lib.hid hc
  have HN := Lib.hid hn
  have hatB := wf_range hat
  have hotB := wf_range hoth
  clear ht hc hn hf hm hat hoth
  by_cases hp : prE day l n = 0
  · obtain ⟨hF, _, _, _⟩ := cmp_back hp HN.out
    have HPT : Hid (prT day l n = fileT day l n) := by unfold Hid prT; rw [if_pos hp]
    have HGD := Lib.hid (fun s' hz k hk hd hne hs c hf => guard hp HN.out (s' := s') hz (k := k) hk hd hne hs (c := c) hf)
    have hSz : (fileT day l n).size ≤ 100000 ∧ 2 ≤ (fileT day l n).size := by have := hF.2.2.2; have := hF.2.1; omega
    have HD1 : Hid (digB (bt (fileT day l n) 1) = true) := by
      have := hF.2.2.1 1 (by omega)
      exact (fileQ_head (fileT day l n) n 1 0 (by omega)).symm.trans this
    rw [hp, HPT.out] at HK
    clear hp hF HPT
    generalize fileT day l n = FT at *
    obtain ⟨hS1, hS2⟩ := hSz
    have hS0 : decide ((FT.size : Int) = 0) = false := decide_eq_false (by omega)
    have hS0n : decide (FT.size = 0) = false := decide_eq_false (by omega)
    have hk0 := chooseN_lt at' (n := FT.size) (by omega)
    have HCH := Lib.hid (fun w => choose_any at' FT.size w hatB (by omega) (by omega))
    generalize chooseN at' FT.size = k0 at *
    go_enter Tryd.func8, Tryd.ntmps8
    go_wp2_with fail
    refine (begun_any _ HT.out).mono ?_
    rintro e w1 ⟨rfl, hb1⟩
    have HB1 := Lib.hid hb1
    clear hb1
    go_wp2_with fail
    refine (HK.out _ (HT.out.below HB1.out) (HC.out.below HB1.out)).mono ?_
    rintro e w2 ⟨rfl, hb2⟩
    have HB2 := Lib.hid (HB1.out.trans (hb2.mono HB1.out.size))
    clear hb2
    go_wp2_with fail
    refine (HCH.out _).mono ?_
    rintro e w' ⟨rfl, h'⟩
    subst w'
    go_wp2_with fail
    go_loopw [11, 12] (fun kv nv wr => ∃ k m : Nat, kv = .int .i64 k ∧ nv = .int .i64 m ∧ m ≤ FT.size ∧ k < FT.size ∧ k = (k0 + m) % FT.size ∧ (∀ q, q < m → digB (bt FT ((k0 + q) % FT.size)) = false) ∧ wr = w2) (fun _ nv _ => FT.size - (intOf nv).toNat)
    case atStart => exact ⟨k0, 0, rfl, rfl, Nat.zero_le _, hk0, (Nat.mod_eq_of_lt hk0).symm, fun q hq => by omega, rfl⟩
    case round =>
      obtain ⟨k, m, rfl, rfl, hm, hk, hkm, hall, rfl⟩ := hrel
      have HA := Lib.hid hall
      have HKM := Lib.hid hkm
      have HDG := Lib.hid (fun w => isDigit_ref FT k w)
      clear hall hkm
      by_cases hlt : m < FT.size
      · have hlt' : (m : Int) < (FT.size : Int) := by omega
        cases hdg : digB (bt FT k)
        · rw [hdg] at HDG
          have hmod : ((k : Int) + 1).tmod (FT.size : Int) = (((k + 1) % FT.size : Nat) : Int) := by
            rw [Int.tmod_eq_emod_of_nonneg (by omega)]
            norm_cast
          have hSne : (FT.size : Int) ≠ 0 := by omega
          have hkl := Nat.mod_lt (k + 1) (show 0 < FT.size by omega)
          have HNX : Hid ((k + 1) % FT.size = (k0 + (m + 1)) % FT.size) := by
            unfold Hid
            rw [HKM.out, Nat.mod_add_mod, Nat.add_assoc]
          generalize (k + 1) % FT.size = k' at *
          go_wp2_with (go_at_call 27; refine (HDG.out _).mono ?_; rintro e w' ⟨rfl, h'⟩; subst w')
          go_roundw
          case rel =>
            refine ⟨k', m + 1, rfl, by go_num, by omega, hkl, HNX.out, fun q hq => ?_, (by first | trivial | rfl)⟩
            rcases (show q < m ∨ q = m by omega) with h | rfl
            · exact HA.out q h
            · rw [← HKM.out]; exact hdg
          case measure => simp [intOf]; omega
        · rw [hdg] at HDG
          have HD := Lib.hid hdg
          clear HA HKM
          obtain ⟨cp, W, hcv, hcap, hbW, hsW, hcell⟩ := bytes_of FT wr
          have HBW := Lib.hid (HB2.out.trans (hbW.mono HB2.out.size))
          have HCELL := Lib.hid hcell
          obtain ⟨x0, z0⟩ := hcell k hk
          have hx := dig_bd hdg
          rw [bt_in hk] at hx
          clear hbW hcell hdg
          go_wp2_with (go_at_call 27; refine (HDG.out _).mono ?_; rintro e w' ⟨rfl, h'⟩; subst w')
          have hr9 := chooseN_lt oth (n := 9) (by omega)
          have HC9 : Hid (∀ w, Calls Tryd.prog 26 #[.int .i64 oth, .int .i64 9] w fun e w' => e = .returned (.int .i64 (chooseN oth 9 : Int)) ∧ w' = w) := fun w => choose_any oth 9 w hotB (by omega) (by omega)
          generalize chooseN oth 9 = r at *
          obtain ⟨x, hxx⟩ : ∃ x : Int, (FT[k].toNat : Int) = x := ⟨_, rfl⟩
          have HXX := Lib.hid hxx
          rw [hxx] at x0 hx
          obtain ⟨d, hd⟩ : ∃ d : Int, x - 48 = d := ⟨_, rfl⟩
          obtain ⟨d1, hd1⟩ : ∃ d1 : Int, d + 1 = d1 := ⟨_, rfl⟩
          obtain ⟨d2, hd2⟩ : ∃ d2 : Int, d1 + (r : Int) = d2 := ⟨_, rfl⟩
          obtain ⟨y, hy⟩ : ∃ y : Int, d2.tmod 10 = y := ⟨_, rfl⟩
          obtain ⟨z, hz⟩ : ∃ z : Int, 48 + y = z := ⟨_, rfl⟩
          have hyy : y = d2 % 10 := by rw [← hy]; exact Int.tmod_eq_emod_of_nonneg (by omega)
          have hd0 : 0 ≤ d ∧ d ≤ 9 := by omega
          have hd1b : 0 ≤ d1 ∧ d1 ≤ 10 := by omega
          have hd2b : 0 ≤ d2 ∧ d2 ≤ 18 := by omega
          have hyb : 0 ≤ y ∧ y ≤ 9 := by omega
          have hzb : 48 ≤ z ∧ z ≤ 57 := by omega
          have HZX : Hid (z ≠ x) := by unfold Hid; omega
          have hw1 : IntKind.i64.wrap (x - 48) = d := by rw [hd]; exact IntWalk.i64_in _ (by omega)
          have hw2 : IntKind.i64.wrap (d + 1) = d1 := by rw [hd1]; exact IntWalk.i64_in _ (by omega)
          have hw3 : IntKind.i64.wrap (d1 + (r : Int)) = d2 := by rw [hd2]; exact IntWalk.i64_in _ (by omega)
          have hval : IntKind.u8.wrap (48 + IntKind.u8.wrap ((IntKind.i64.wrap (IntKind.i64.wrap (IntKind.i64.wrap (IntKind.i64.wrap x - 48) + 1) + (r : Int))).tmod 10)) = z := by
            rw [IntWalk.i64_in x (by omega), hw1, hw2, hw3, hy, show IntKind.u8.wrap y = y by rw [IntKind.wrap_u8]; omega, hz, IntKind.wrap_u8]
            omega
          obtain ⟨s', hbk, hs'z, hs'k, hs'o⟩ := back_of FT wr.heap.size cp k z W (by omega) hk (fun j hj => (HCELL.out j hj).1)
          have hcb := hbk (W.setCell ⟨wr.heap.size, k, none⟩ (.int .u8 z)).drew (fun _ => rfl)
          have HBV := Lib.hid (HBW.out.setCell (p := ⟨wr.heap.size, k, none⟩) HB2.out.size (.int .u8 z)).drew
          have HS' : Hid (s'.size = FT.size) := hs'z
          have hs'S : s'.size ≤ 9223372036854775807 := by omega
          have HNO : Hid (∀ c, Form s' c → cmpE s' (dayT s') (lnsOf s' c) c ≠ 0) := fun c hf => HGD.out s' hs'z k (by omega) HD.out (by rw [hs'k, bt_in hk, HXX.out]; exact HZX.out) hs'o c hf
          clear hyy hxx hbk hs'z hs'k hs'o
          go_region_with (go_at_call 26; refine (HC9.out _).mono ?_; rintro e w' ⟨rfl, h'⟩; subst w')
          all_goals clear hval hw1 hw2 hw3 hd hd1 hd2 hy hz x0 z0 hcv
          all_goals generalize (W.setCell ⟨wr.heap.size, k, none⟩ (.int .u8 z)).drew = V at *
          · go_wp2_with fail
            refine (Parse_any s' _ (HT.out.below HBV.out) hs'S).mono ?_
            rintro e wy ⟨hby, ⟨c, v, h1, h2, rfl, h4⟩ | ⟨er, a9, h1, rfl, h3⟩⟩
            · exact absurd h2 (HNO.out c h1)
            · have HBY := Lib.hid (HBV.out.trans (hby.mono HBV.out.size))
              have HBZ := Lib.hid (HBY.out.alloc HBY.out.size (.cells #[.int .i64 er, .int .i64 a9] 38))
              have herD : decide (er = 0) = false := decide_eq_false h1
              have herB : (er == 0) = false := by simpa using h1
              have herN : (er != 0) = true := by simpa using h1
              clear hby h3
              go_wp2_with fail
              go_ret
              exact ⟨rfl, HBZ.out⟩
          · go_wp2_with fail
            refine (Parse_any s' _ (HT.out.below HBV.out) hs'S).mono ?_
            rintro e wy ⟨hby, ⟨c, v, h1, h2, rfl, h4⟩ | ⟨er, a9, h1, rfl, h3⟩⟩
            · exact absurd h2 (HNO.out c h1)
            · have HBY := Lib.hid (HBV.out.trans (hby.mono HBV.out.size))
              have HBZ := Lib.hid (HBY.out.alloc HBY.out.size (.cells #[.int .i64 er, .int .i64 a9] 38))
              have herD : decide (er = 0) = false := decide_eq_false h1
              have herB : (er == 0) = false := by simpa using h1
              have herN : (er != 0) = true := by simpa using h1
              clear hby h3
              go_wp2_with fail
              go_ret
              exact ⟨rfl, HBZ.out⟩
      · exfalso
        obtain rfl : m = FT.size := by omega
        have := round_all (P := fun q => digB (bt FT q) = false) (S := FT.size) (by omega) hk0 HA.out
        rw [HD1.out] at this
        cases this
  · have hpD : decide (prE day l n = 0) = false := decide_eq_false hp
    have hpB : (prE day l n == 0) = false := by simpa using hp
    have hpN : (prE day l n != 0) = true := by simpa using hp
    generalize prE day l n = pe at *
    generalize prT day l n = pt at *
    go_enter Tryd.func8, Tryd.ntmps8
    go_wp2_with fail
    refine (begun_any _ HT.out).mono ?_
    rintro e w1 ⟨rfl, hb1⟩
    have HB1 := Lib.hid hb1
    clear hb1
    go_wp2_with fail
    refine (HK.out _ (HT.out.below HB1.out) (HC.out.below HB1.out)).mono ?_
    rintro e w2 ⟨rfl, hb2⟩
    have HBX := Lib.hid (HB1.out.trans (hb2.mono HB1.out.size))
    clear hb2
    go_wp2_with fail
    go_ret
    exact ⟨rfl, HBX.out⟩
end Go.Proofs.YtmadcakjdfoaiaaDoor
