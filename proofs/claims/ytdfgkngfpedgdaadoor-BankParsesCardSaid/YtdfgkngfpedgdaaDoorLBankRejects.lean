/-
  Promise P4: the walk of the law BankRejects: it answers true at every input.
-/
import Derived.Test.YtdfgkngfpedgdaaDoorBRej
import Derived.Test.YtdfgkngfpedgdaaDoorLBankAccounts
namespace Go.Proofs.YtdfgkngfpedgdaaDoor
open Go.RowKit Go.Maps Go.WideMaps

theorem py_eta (p : Py) : p = ⟨p.acc, p.nam, p.mon, p.ref⟩ := rfl
set_option maxRecDepth 100000 in
set_option maxHeartbeats 2000000 in
theorem samePayments_ref (x y : Option Addr) (n c d : Nat) (l : List Py) (w : World) (hx : CameP w x l) (hy : CameP w y l) (hn : l.length = n) (hm : n ≤ 9223372036854775807) :
    Calls Tryd.prog 23 #[.slice x n c, .slice y n d] w fun e w' => e = .returned (.bool true) ∧ ∃ q, w' = w.drewN q := by
  have HX := Lib.hid (fun h0 => hx.open hn h0)
  have HY := Lib.hid (fun h0 => hy.open hn h0)
  have hnn : ((n : Int) != (n : Int)) = false := by simp
  clear hx hy hn
  go_enter Tryd.func23, Tryd.ntmps23
  go_wp2_with fail
  go_loopw [5] (fun i wr => ∃ k : Nat, k ≤ n ∧ i = .int .i64 k ∧ ∃ q, wr = w.drewN q) (fun i _ => n - (intOf i).toNat)
  case atStart => exact ⟨0, Nat.zero_le _, rfl, 0, rfl⟩
  case round =>
    obtain ⟨k, hk, rfl, q, rfl⟩ := hrel
    by_cases hlt : k < n
    · have hlt' : (k : Int) < (n : Int) := by omega
      obtain ⟨b1, o1, rfl, _, hc1⟩ := HX.out (by omega)
      obtain ⟨b2, o2, rfl, _, hc2⟩ := HY.out (by omega)
      obtain ⟨x0, x1, x2, x3⟩ := hc1 w (Below.refl _ _) k hlt
      obtain ⟨y0, y1, y2, y3⟩ := hc2 w (Below.refl _ _) k hlt
      clear hc1 hc2
      generalize (pnth l k).ref = rf at *
      generalize (pnth l k).acc = ac at *
      generalize (pnth l k).nam = nm at *
      generalize (pnth l k).mon = mo at *
      go_wp2_with fail
      go_quiet (fail)
      go_wp2_with fail
      go_roundw
      case rel => exact ⟨k + 1, by omega, by go_num, _, rfl⟩
      case measure => simp [intOf]; omega
    · go_wp2_with fail
      go_ret
      exact ⟨rfl, _, rfl⟩
theorem metI_at {z : List Int} {x : Int} {j : Nat} : ∀ {k : Nat}, j < k → nth z j = x → metI z x k = true
  | 0, h, _ => by omega
  | k + 1, h, e => by
    rw [metI]
    by_cases q : j = k
    · subst q; rw [e]; simp
    · rw [metI_at (k := k) (by omega) e]; rfl
/-- Where a number is first. -/
def PlaceIs (z : List Int) (x : Int) (m : Nat) (p : Int) : Prop := (p = -1 ∧ metI z x m = false) ∨ ∃ j : Nat, p = (j : Int) ∧ j < m ∧ nth z j = x ∧ metI z x j = false
theorem PlaceIs.lt {z : List Int} {m k : Nat} {p : Int} (h : PlaceIs z (nth z k) m p) (hk : k < m) : decide (p < (k : Int)) = metI z (nth z k) k := by
  rcases h with ⟨_, h⟩ | ⟨j, rfl, hj, he, hn⟩
  · rw [metI_at hk rfl] at h; cases h
  · by_cases hjk : j < k
    · rw [decide_eq_true (by omega), metI_at hjk he]
    · have : j = k := by
        by_cases e : j = k
        · exact e
        · rw [metI_at (j := k) (k := j) (by omega) rfl] at hn; cases hn
      subst this
      rw [decide_eq_false (by omega), hn]
theorem PlaceIs.ge {z : List Int} {x : Int} {m : Nat} {p : Int} (h : PlaceIs z x m p) : decide (0 ≤ p) = metI z x m := by
  rcases h with ⟨rfl, h⟩ | ⟨j, rfl, hj, he, _⟩
  · rw [h]; rfl
  · rw [metI_at hj he]; exact decide_eq_true (by omega)
set_option maxRecDepth 100000 in
set_option maxHeartbeats 1000000 in
theorem place_ref (a : Option Addr) (m cap : Nat) (z : List Int) (x : Int) (w : World) (hz : Came w a z) (hn : z.length = m) (hm : m ≤ 9223372036854775807) :
    Calls Tryd.prog 25 #[.slice a m cap, .int .i64 x] w fun e w' => ∃ p : Int, e = .returned (.int .i64 p) ∧ PlaceIs z x m p ∧ w' = w := by
  have HO := Lib.hid (fun h0 => hz.openI hn h0)
  clear hz hn
  go_enter Tryd.func25, Tryd.ntmps25
  go_wp2_with fail
  go_loop [5] (fun i => ∃ k : Nat, k ≤ m ∧ i = .int .i64 k ∧ metI z x k = false) (fun i => m - (intOf i).toNat)
  case atStart => exact ⟨0, Nat.zero_le _, rfl, rfl⟩
  case round =>
    obtain ⟨k, hk, rfl, hno⟩ := hrel
    have HNO := Lib.hid hno
    clear hno
    by_cases hlt : k < m
    · have hlt' : (k : Int) < (m : Int) := by omega
      obtain ⟨b, off, rfl, _, hcell⟩ := HO.out (by omega)
      have x0 := hcell w (Below.refl _ _) k hlt
      clear hcell
      by_cases hx : nth z k = x
      · have hxB : (nth z k == x) = true := by simpa using hx
        have hxD : decide (nth z k = x) = true := decide_eq_true hx
        have HX := Lib.hid hx
        clear hx
        go_wp2_with fail
        go_ret
        exact ⟨k, rfl, .inr ⟨k, rfl, hlt, HX.out, HNO.out⟩, rfl⟩
      · have hxB : (nth z k == x) = false := by simpa using hx
        have hxD : decide (nth z k = x) = false := decide_eq_false hx
        have HX : Hid (metI z x (k + 1) = false) := by unfold Hid; rw [metI, HNO.out, hxB]; rfl
        clear hx
        go_wp2_with fail
        go_round
        case rel => exact ⟨k + 1, by omega, by go_num, HX.out⟩
        case measure => simp [intOf]; omega
    · obtain rfl : m = k := by omega
      go_wp2_with fail
      go_ret
      exact ⟨-1, rfl, .inl ⟨rfl, HNO.out⟩, rfl⟩
theorem firstI_stable {l : List Py} {n : Nat} {z : List Int} {k : Nat} (h : firstI l n z k ≠ 0) : ∀ {m : Nat}, k ≤ m → firstI l n z m = firstI l n z k
  | 0, hk => by obtain rfl : k = 0 := by omega
                rfl
  | m + 1, hk => by
    by_cases e : k = m + 1
    · subst e; rfl
    · rw [firstI, firstI_stable h (m := m) (by omega), if_neg h]
theorem rejE_stable {l : List Py} {n : Nat} {z : List Int} {k m : Nat} (h : rejE l n z k ≠ 0) (hk : k ≤ m) : rejE l n z m = rejE l n z k := by
  by_cases hp : payE l n = 0
  · rw [rejE_ref hp] at h
    rw [rejE_ref hp, rejE_ref hp, firstI_stable h hk]
  · rw [rejE_pay hp, rejE_pay hp]
theorem rejE_step {l : List Py} {n : Nat} {z : List Int} {k : Nat} (h : rejE l n z k = 0) : rejE l n z (k + 1) = badI l n z k := by
  by_cases hp : payE l n = 0
  · rw [rejE_ref hp] at h
    rw [rejE_ref hp, firstI, if_pos h]
  · rw [rejE_pay hp] at h; exact absurd h hp
theorem rejE_0 {l : List Py} {n : Nat} {z : List Int} : rejE l n z 0 = payE l n := by
  by_cases hp : payE l n = 0
  · rw [rejE_ref hp, hp]; rfl
  · rw [rejE_pay hp]
set_option maxRecDepth 100000 in
set_option maxHeartbeats 4000000 in
theorem walk_bankRejects {w : World} (a : Option Addr) (n cap : Nat) (l : List Py) (hc : CameP w a l) (hn : l.length = n) (hm : n ≤ maxLen) (hf : ∀ j, j < n → FitP (pnth l j))
    (za : Option Addr) (m zcap : Nat) (z : List Int) (hz : Came w za z) (hzn : z.length = m) (hzm : m ≤ maxLen) (hzw : ∀ x ∈ z, (Lit.int .i64 x).wf = true) (ht : Tab w) :
    Calls Tryd.prog 6 #[.slice a n cap, .slice za m zcap] w fun e w' => e = .returned (.bool true) ∧ Below w.heap.size w w' := by
  have hmI : n ≤ 9223372036854775807 := by unfold maxLen at hm; omega
  have hzI : m ≤ 9223372036854775807 := by unfold maxLen at hzm; omega
  have HT := Lib.hid ht
  have HC := Lib.hid hc
  have HZ := Lib.hid hz
  have HN := Lib.hid hn
  have HZN := Lib.hid hzn
  have HF := Lib.hid hf
  have HK := Lib.hid (Reject_any a n cap l za m zcap z w ht hc hf hn hmI hz hzn hzm hzw)
  have HCR := Lib.hid (fun w hc => checkPayments_ref a n cap l w hc hf hn hmI)
  clear ht hc hz hf hn hzn hzw hm hzm
  go_enter Tryd.func6, Tryd.ntmps6
  go_wp2_with fail
  refine HK.out.mono ?_
  rintro e w1 ⟨lv, rv, rfl, hv, hb1⟩
  have HB1 := Lib.hid hb1
  have HV1 := Lib.hid hv
  obtain ⟨lx, ln, lc, hlv⟩ : ∃ x k c, lv = .slice x k c := by
    rcases hv with ⟨_, h, _⟩ | ⟨_, h, _⟩
    · exact ⟨_, _, _, h⟩
    · obtain ⟨x, c, h, _⟩ := h.slice; exact ⟨_, _, _, h⟩
  obtain ⟨rx, rn, rc, hrv⟩ : ∃ x k c, rv = .slice x k c := by
    rcases hv with ⟨_, _, h⟩ | ⟨_, _, h⟩
    · exact ⟨_, _, _, h⟩
    · obtain ⟨x, c, h, _⟩ := h.slice; exact ⟨_, _, _, h⟩
  subst hlv hrv
  clear hb1 hv HK
  go_wp2_with fail
  refine (HCR.out _ (HC.out.below HB1.out)).mono ?_
  rintro e w2 ⟨rfl, hb2⟩
  have HB12 := Lib.hid hb2
  have HB2 := Lib.hid (HB1.out.trans (hb2.mono HB1.out.size))
  have HCO := Lib.hid (fun h0 => (HC.out.below HB2.out).open HN.out h0)
  have HZ2 := Lib.hid (HZ.out.below HB2.out)
  have HZO := Lib.hid (fun h0 => (HZ.out.below HB2.out).openI HZN.out h0)
  clear hb2 HCR
  rw [← rejE_0 (l := l) (n := n) (z := z)]
  go_wp2_with fail
  go_loopw [8, 9] (fun wv i wr => ∃ k : Nat, k ≤ m ∧ i = .int .i64 k ∧ wv = .int .i64 (rejE l n z k) ∧ ∃ q, wr = w2.drewN q) (fun _ i _ => m - (intOf i).toNat)
  case atStart => exact ⟨0, Nat.zero_le _, rfl, rfl, 0, rfl⟩
  case round =>
    obtain ⟨k, hk, rfl, rfl, q, rfl⟩ := hrel
    by_cases hlt : k < m ∧ rejE l n z k = 0
    · obtain ⟨hlt, hz0⟩ := hlt
      have hlt' : (k : Int) < (m : Int) := by omega
      obtain ⟨zb, zo, rfl, _, hzc⟩ := HZO.out (by omega)
      have z0 := hzc w2 (Below.refl _ _) k hlt
      have HRS := Lib.hid (rejE_step hz0)
      have HPL := Lib.hid (fun q => place_ref (some ⟨zb, zo, none⟩) m zcap z (nth z k) (w2.drewN q) (HZ2.out.below (pbelow_dN (Below.refl _ _) q)) HZN.out hzI)
      have HLT := Lib.hid (fun p (h : PlaceIs z (nth z k) m p) => h.lt hlt)
      have HB0 := Lib.hid (@badI_none l n z k)
      have HBT := Lib.hid (@badI_twice l n z k)
      have HBO := Lib.hid (@badI_ok l n z k)
      have HMS : Hid (∀ j, metR l (nth z k) (j + 1) = (metR l (nth z k) j || (pnth l j).ref == nth z k)) := fun j => rfl
      have HM0 : Hid (metR l (nth z k) 0 = false) := rfl
      rw [hz0]
      clear hzc hz0
      generalize badI l n z k = bad at *
      generalize nth z k = x at *
      go_wp2_with fail
      go_loopw [10, 11] (fun kv i wr => ∃ k2 : Nat, k2 ≤ n ∧ i = .int .i64 k2 ∧ kv = .bool (metR l x k2) ∧ ∃ q, wr = w2.drewN q) (fun _ i _ => n - (intOf i).toNat)
      case atStart => exact ⟨0, Nat.zero_le _, rfl, by rw [HM0.out], q, rfl⟩
      case round =>
        obtain ⟨k2, hk2, rfl, rfl, q2, rfl⟩ := hrel
        by_cases hlt2 : k2 < n
        · have hlt2' : (k2 : Int) < (n : Int) := by omega
          obtain ⟨b, off, rfl, _, hcell⟩ := HCO.out (by omega)
          obtain ⟨_, _, _, x3⟩ := hcell w2 (Below.refl _ _) k2 hlt2
          have HMK := Lib.hid (HMS.out k2)
          clear hcell
          generalize (pnth l k2).ref = r2 at *
          cases hk3 : metR l x k2
          · rw [hk3] at HMK
            by_cases hr : r2 = x
            · have hrB : (r2 == x) = true := by simpa using hr
              have hrD : decide (r2 = x) = true := decide_eq_true hr
              have HV : Hid (metR l x (k2 + 1) = true) := by unfold Hid; rw [HMK.out, hrB]; rfl
              clear hr
              go_wp2_with fail
              go_quiet (fail)
              go_wp2_with fail
              go_roundw
              case rel => exact ⟨k2 + 1, by omega, by go_num, by rw [HV.out], _, rfl⟩
              case measure => simp [intOf]; omega
            · have hrB : (r2 == x) = false := by simpa using hr
              have hrD : decide (r2 = x) = false := decide_eq_false hr
              have HV : Hid (metR l x (k2 + 1) = false) := by unfold Hid; rw [HMK.out, hrB]; rfl
              clear hr
              go_wp2_with fail
              go_quiet (fail)
              go_wp2_with fail
              go_roundw
              case rel => exact ⟨k2 + 1, by omega, by go_num, by rw [HV.out], _, rfl⟩
              case measure => simp [intOf]; omega
          · rw [hk3] at HMK
            have HV : Hid (metR l x (k2 + 1) = true) := by unfold Hid; rw [HMK.out]; rfl
            go_wp2_with fail
            go_quiet (fail)
            go_wp2_with fail
            go_roundw
            case rel => exact ⟨k2 + 1, by omega, by go_num, by rw [HV.out], _, rfl⟩
            case measure => simp [intOf]; omega
        · obtain rfl : n = k2 := by omega
          cases hme : metR l x n
          · have HV := Lib.hid (HB0.out hme)
            go_wp2_with fail
            go_roundw
            case rel => exact ⟨k + 1, by omega, by go_num, by rw [HRS.out, HV.out], _, rfl⟩
            case measure => simp [intOf]; omega
          · go_wp2_with fail
            refine (HPL.out q2).mono ?_
            rintro e w' ⟨p, rfl, hpl, h'⟩
            subst w'
            have hpB := HLT.out p hpl
            clear hpl
            cases hti : metI z x k
            · rw [hti] at hpB
              have hpN : ¬ (p < (k : Int)) := of_decide_eq_false hpB
              have HV := Lib.hid (HBO.out hme hti)
              go_wp2_with fail
              go_roundw
              case rel => exact ⟨k + 1, by omega, by go_num, by rw [HRS.out, HV.out], _, rfl⟩
              case measure => simp [intOf]; omega
            · rw [hti] at hpB
              have hpN : p < (k : Int) := of_decide_eq_true hpB
              have HV := Lib.hid (HBT.out hme hti)
              go_wp2_with fail
              go_roundw
              case rel => exact ⟨k + 1, by omega, by go_num, by rw [HRS.out, HV.out], _, rfl⟩
              case measure => simp [intOf]; omega
    · have HRE : Hid (rejE l n z m = rejE l n z k) := by
        unfold Hid
        by_cases h0 : rejE l n z k = 0
        · obtain rfl : m = k := by
            by_cases hkm : k < m
            · exact absurd ⟨hkm, h0⟩ hlt
            · omega
          rfl
        · exact rejE_stable h0 hk
      rw [← HRE.out]
      have HEX : Hid (¬ (k < m ∧ rejE l n z m = 0)) := by unfold Hid; rw [HRE.out]; exact hlt
      have H300 : Hid (rejE l n z m = 0 → n ≤ 300) := fun h => by
        by_cases hp : payE l n = 0
        · exact (payE_zero hp).1
        · rw [rejE_pay hp] at h; exact absurd h hp
      clear hlt HRE
      generalize hre : rejE l n z m = re at *
      clear hre
      have HB3 := Lib.hid (pbelow_dN HB2.out q)
      have HB13 := Lib.hid (pbelow_dN HB12.out q)
      have HCO3 : Hid (0 < n → ∃ b off, a = some ⟨b, off, none⟩ ∧ b < w2.heap.size ∧ ∀ w', Below (w2.drewN q).heap.size (w2.drewN q) w' → ∀ j, j < n → PyAt w' b (off + j * 4) (pnth l j)) := by
        intro h0
        obtain ⟨b, off, e1, e2, h⟩ := HCO.out h0
        exact ⟨b, off, e1, e2, fun w' hb j hj => h w' ((pbelow_dN (Below.refl w2.heap.size w2) q).trans hb) j hj⟩
      have HZ3 := Lib.hid (HZ2.out.below (pbelow_dN (Below.refl w2.heap.size w2) q))
      have HT3 := Lib.hid (HT.out.below HB3.out)
      clear HB2 HB12 HCO HZ2 HZO
      generalize (w2.drewN q) = w3 at *
      by_cases hre0 : re = 0
      · subst hre0
        have hkm : ¬ (k < m) := fun h => HEX.out ⟨h, rfl⟩
        have hkm' : decide ((k : Int) < (m : Int)) = false := decide_eq_false (by omega)
        obtain ⟨_, hgl, hgr⟩ : (0 : Int) = 0 ∧ _ ∧ _ := by
          rcases HV1.out with ⟨h, _⟩ | h
          · exact absurd rfl h
          · exact h
        have HGL := Lib.hid (hgl.below HB13.out)
        have HGR := Lib.hid (hgr.below HB13.out)
        have h300 : n ≤ 300 := H300.out rfl
        obtain ⟨xl, cl, hvl, _⟩ := HGL.out.slice
        obtain ⟨xr, cr, hvr, _⟩ := HGR.out.slice
        rw [hvl, hvr]
        rw [hvl] at HGL
        rw [hvr] at HGR
        clear hgl hgr HV1 HEX H300 hvl hvr
        go_wp2_with fail
        go_loopw [12, 13, 14] (fun pv qv i wr => ∃ k : Nat, k ≤ n ∧ i = .int .i64 k ∧ GrowP wr w3.heap.size pv (selP l (fun x => !metI z x m) k) ∧ GrowP wr w3.heap.size qv (selP l (fun x => metI z x m) k) ∧ Apart pv qv ∧ Below w3.heap.size w3 wr) (fun _ _ i _ => n - (intOf i).toNat)
        case atStart => exact ⟨0, Nat.zero_le _, rfl, GrowP.nil _ _, GrowP.nil _ _, .inl rfl, Below.refl _ _⟩
        case round =>
          obtain ⟨k, hk, rfl, hgl, hgr, hap, hb6⟩ := hrel
          have HPL := Lib.hid hgl
          have HPR := Lib.hid hgr
          have HAP := Lib.hid hap
          have HB6 := Lib.hid hb6
          have HLL := Lib.hid (selP_len l (fun x => !metI z x m) k)
          have HLR := Lib.hid (selP_len l (fun x => metI z x m) k)
          obtain ⟨yl, dl, hvl, _⟩ := hgl.slice
          obtain ⟨yr, dr, hvr, _⟩ := hgr.slice
          subst hvl hvr
          clear hgl hgr hap hb6
          by_cases hlt2 : k < n
          · have hlt2' : (k : Int) < (n : Int) := by omega
            obtain ⟨b, off, rfl, hbl, hcell⟩ := HCO3.out (by omega)
            obtain ⟨x0, x1, x2, x3⟩ := hcell wr HB6.out k hlt2
            have HPC := Lib.hid (place_ref za m zcap z (pnth l k).ref wr (HZ3.out.below HB6.out) HZN.out hzI)
            have HGE := Lib.hid (fun p (h : PlaceIs z (pnth l k).ref m p) => h.ge)
            have HY1 := Lib.hid (@selP_yes l (fun x => !metI z x m) k)
            have HY2 := Lib.hid (@selP_yes l (fun x => metI z x m) k)
            have HY3 := Lib.hid (@selP_no l (fun x => !metI z x m) k)
            have HY4 := Lib.hid (@selP_no l (fun x => metI z x m) k)
            clear hcell hbl
            generalize hpk : pnth l k = pk at *
            clear hpk
            generalize selP l (fun x => !metI z x m) k = L0 at *
            generalize selP l (fun x => metI z x m) k = L1 at *
            go_wp2_with fail
            refine HPC.out.mono ?_
            rintro e w' ⟨p, rfl, hpl, h'⟩
            subst w'
            have hpB := HGE.out p hpl
            clear hpl
            cases hti : metI z pk.ref m
            · rw [hti] at hpB
              have hpN : ¬ (0 ≤ p) := of_decide_eq_false hpB
              have HS1 := Lib.hid (HY1.out (by simp [hti]))
              have HS2 := Lib.hid (HY4.out hti)
              go_wp2_with (at_builtin; go_loud (refine wpList_appP _ rfl _ _ rfl w3.heap.size _ L0 rfl ?hgw _ 1 pk rfl ?h0 ?h1 ?h2 ?h3 ?hl ?hB ?_; rotate_right; intro v9 w9 hg9 hgr9 hd9 hb9; refine Hid.out ?_))
              case hgw => exact HPL.out.alloc _
              all_goals try (case h0 => simp)
              all_goals try (case h1 => simp)
              all_goals try (case h2 => simp)
              all_goals try (case h3 => simp)
              case hl => have := HLL.out; have := HLR.out; omega
              case hB => have := HB6.out.size; simp at *; omega
              have HO9 := Lib.hid ((HPR.out.alloc _).kept hgr9 ?hapx)
              case hapx => first | exact HAP.out.symm | exact HAP.out
              have HA9 : Hid (Apart _ v9) := Apart.appP ?hap2 (HPR.out.alloc _) hd9
              case hap2 => first | exact HAP.out.symm | exact HAP.out
              have HB9 := Lib.hid ((HB6.out.alloc HB6.out.size _).trans hb9)
              have HG9 := Lib.hid hg9
              obtain ⟨x9, c9, hv9, _⟩ := hg9.slice
              subst hv9
              clear hg9 hgr9 hd9 hb9
              refine Lib.hid ?_
              go_wp2_with fail
              go_roundw
              case rel => exact ⟨k + 1, by omega, by go_num, by rw [HS1.out]; exact HG9.out, by rw [HS2.out]; exact HO9.out, HA9.out.symm, HB9.out⟩
              case measure => simp [intOf]; omega
            · rw [hti] at hpB
              have hpN : 0 ≤ p := of_decide_eq_true hpB
              have HS1 := Lib.hid (HY3.out (by simp [hti]))
              have HS2 := Lib.hid (HY2.out hti)
              go_wp2_with (at_builtin; go_loud (refine wpList_appP _ rfl _ _ rfl w3.heap.size _ L1 rfl ?hgw _ 1 pk rfl ?h0 ?h1 ?h2 ?h3 ?hl ?hB ?_; rotate_right; intro v9 w9 hg9 hgr9 hd9 hb9; refine Hid.out ?_))
              case hgw => exact HPR.out.alloc _
              all_goals try (case h0 => simp)
              all_goals try (case h1 => simp)
              all_goals try (case h2 => simp)
              all_goals try (case h3 => simp)
              case hl => have := HLL.out; have := HLR.out; omega
              case hB => have := HB6.out.size; simp at *; omega
              have HO9 := Lib.hid ((HPL.out.alloc _).kept hgr9 ?hapx)
              case hapx => first | exact HAP.out.symm | exact HAP.out
              have HA9 : Hid (Apart _ v9) := Apart.appP ?hap2 (HPL.out.alloc _) hd9
              case hap2 => first | exact HAP.out.symm | exact HAP.out
              have HB9 := Lib.hid ((HB6.out.alloc HB6.out.size _).trans hb9)
              have HG9 := Lib.hid hg9
              obtain ⟨x9, c9, hv9, _⟩ := hg9.slice
              subst hv9
              clear hg9 hgr9 hd9 hb9
              refine Lib.hid ?_
              go_wp2_with fail
              go_roundw
              case rel => exact ⟨k + 1, by omega, by go_num, by rw [HS1.out]; exact HO9.out, by rw [HS2.out]; exact HG9.out, HA9.out, HB9.out⟩
              case measure => simp [intOf]; omega
          · obtain rfl : n = k := by omega
            have HBR := Lib.hid (HB3.out.trans (HB6.out.mono HB3.out.size))
            have HL1 := Lib.hid (HGL.out.below HB6.out)
            have HR1 := Lib.hid (HGR.out.below HB6.out)
            generalize selP l (fun x => !metI z x m) n = L0 at *
            generalize selP l (fun x => metI z x m) n = L1 at *
            go_wp2_with fail
            refine (begun_any _ (HT3.out.below HB6.out)).mono ?_
            rintro e w4 ⟨rfl, hb4⟩
            have HB4 := Lib.hid (HBR.out.trans (hb4.mono HBR.out.size))
            obtain ⟨_, _, e1, cm1⟩ := (HL1.out.below hb4).slice
            obtain ⟨_, _, e2, cm2⟩ := (HPL.out.below hb4).slice
            obtain ⟨_, _, e3, cm3⟩ := (HR1.out.below hb4).slice
            obtain ⟨_, _, e4, cm4⟩ := (HPR.out.below hb4).slice
            cases e1
            cases e2
            cases e3
            cases e4
            have HM0 := HLL.out
            have HM1 := HLR.out
            have HS1 := Lib.hid (samePayments_ref xl yl L0.length cl dl L0 w4 cm1 cm2 rfl (by omega))
            have HS2 := Lib.hid (fun q => samePayments_ref xr yr L1.length cr dr L1 (w4.drewN q) (cm3.below (pbelow_dN (Below.refl _ _) q)) (cm4.below (pbelow_dN (Below.refl _ _) q)) rfl (by omega))
            clear hb4 cm1 cm2 cm3 cm4 HM0 HM1
            go_wp2_with fail
            refine HS1.out.mono ?_
            rintro e w5 ⟨rfl, q5, h5⟩
            subst w5
            go_wp2_with fail
            refine (HS2.out q5).mono ?_
            rintro e w6 ⟨rfl, q6, h6⟩
            subst w6
            go_wp2_with fail
            go_ret
            exact ⟨tret_bool (by simp), pbelow_dN HB4.out _⟩
      · have hreB : (re == 0) = false := by simpa using hre0
        have hreD : decide (re = 0) = false := decide_eq_false hre0
        obtain ⟨_, hl1, hr1⟩ : re ≠ 0 ∧ _ ∧ _ := by
          rcases HV1.out with h | ⟨h, _⟩
          · exact h
          · exact absurd h hre0
        cases hl1
        cases hr1
        by_cases hkm : k < m
        · have hkm' : (k : Int) < (m : Int) := by omega
          go_wp2_with fail
          refine wp_loop_rounds 1 ?_
          rw [rounds_succ]
          by_cases hn0 : 0 < n
          · have hn0' : (0 : Int) < (n : Int) := by omega
            go_wp2_with fail
            refine (begun_any _ HT3.out).mono ?_
            rintro e w4 ⟨rfl, hb4⟩
            have HB4 := Lib.hid (HB3.out.trans (hb4.mono HB3.out.size))
            clear hb4
            go_wp2_with fail
            refine (samePayments_ref none none 0 0 0 [] _ (.inl rfl) (.inl rfl) rfl (by omega)).mono ?_
            rintro e w5 ⟨rfl, q5, h5⟩
            subst w5
            go_wp2_with fail
            refine (samePayments_ref none none 0 0 0 [] _ (.inl rfl) (.inl rfl) rfl (by omega)).mono ?_
            rintro e w6 ⟨rfl, q6, h6⟩
            subst w6
            go_wp2_with fail
            go_ret
            exact ⟨tret_bool (by simp), pbelow_dN HB4.out _⟩
          · have hn0' : decide ((0 : Int) < (n : Int)) = false := decide_eq_false (by omega)
            go_wp2_with fail
            refine (begun_any _ HT3.out).mono ?_
            rintro e w4 ⟨rfl, hb4⟩
            have HB4 := Lib.hid (HB3.out.trans (hb4.mono HB3.out.size))
            clear hb4
            go_wp2_with fail
            refine (samePayments_ref none none 0 0 0 [] _ (.inl rfl) (.inl rfl) rfl (by omega)).mono ?_
            rintro e w5 ⟨rfl, q5, h5⟩
            subst w5
            go_wp2_with fail
            refine (samePayments_ref none none 0 0 0 [] _ (.inl rfl) (.inl rfl) rfl (by omega)).mono ?_
            rintro e w6 ⟨rfl, q6, h6⟩
            subst w6
            go_wp2_with fail
            go_ret
            exact ⟨tret_bool (by simp), pbelow_dN HB4.out _⟩
        · have hkm' : decide ((k : Int) < (m : Int)) = false := decide_eq_false (by omega)
          go_wp2_with fail
          refine wp_loop_rounds 1 ?_
          rw [rounds_succ]
          by_cases hn0 : 0 < n
          · have hn0' : (0 : Int) < (n : Int) := by omega
            go_wp2_with fail
            refine (begun_any _ HT3.out).mono ?_
            rintro e w4 ⟨rfl, hb4⟩
            have HB4 := Lib.hid (HB3.out.trans (hb4.mono HB3.out.size))
            clear hb4
            go_wp2_with fail
            refine (samePayments_ref none none 0 0 0 [] _ (.inl rfl) (.inl rfl) rfl (by omega)).mono ?_
            rintro e w5 ⟨rfl, q5, h5⟩
            subst w5
            go_wp2_with fail
            refine (samePayments_ref none none 0 0 0 [] _ (.inl rfl) (.inl rfl) rfl (by omega)).mono ?_
            rintro e w6 ⟨rfl, q6, h6⟩
            subst w6
            go_wp2_with fail
            go_ret
            exact ⟨tret_bool (by simp), pbelow_dN HB4.out _⟩
          · have hn0' : decide ((0 : Int) < (n : Int)) = false := decide_eq_false (by omega)
            go_wp2_with fail
            refine (begun_any _ HT3.out).mono ?_
            rintro e w4 ⟨rfl, hb4⟩
            have HB4 := Lib.hid (HB3.out.trans (hb4.mono HB3.out.size))
            clear hb4
            go_wp2_with fail
            refine (samePayments_ref none none 0 0 0 [] _ (.inl rfl) (.inl rfl) rfl (by omega)).mono ?_
            rintro e w5 ⟨rfl, q5, h5⟩
            subst w5
            go_wp2_with fail
            refine (samePayments_ref none none 0 0 0 [] _ (.inl rfl) (.inl rfl) rfl (by omega)).mono ?_
            rintro e w6 ⟨rfl, q6, h6⟩
            subst w6
            go_wp2_with fail
            go_ret
            exact ⟨tret_bool (by simp), pbelow_dN HB4.out _⟩
end Go.Proofs.YtdfgkngfpedgdaaDoor
