/-
  Promise M3: sums by a name and a year: the walks of Sum and of the reference's SumOf.
-/
import Derived.Test.YtfamnlaignjhkaaOGath
namespace Go.Proofs.Ytfamnlaignjhkaa
open Go.RowKit Go.Sort

/-- Has a total this name, this year? -/
def nyB (s : ByteArray) (y : Int) (t : Tt) : Bool := (t.nam.toList == s.toList) && (t.yr == y)
def sumNY (s : ByteArray) (y : Int) : List Tt → Int
  | [] => 0
  | t :: r => (if nyB s y t = true then t.mon else 0) + sumNY s y r
theorem sumNY_append (s : ByteArray) (y : Int) : ∀ L M : List Tt, sumNY s y (L ++ M) = sumNY s y L + sumNY s y M
  | [], M => by simp [sumNY]
  | t :: r, M => by rw [List.cons_append, sumNY, sumNY, sumNY_append s y r M]; omega
theorem sumNY_bound (s : ByteArray) (y : Int) : ∀ {L : List Tt}, (∀ t ∈ L, OkT t) → -(1000000000000 * (L.length : Int)) ≤ sumNY s y L ∧ sumNY s y L ≤ 1000000000000 * (L.length : Int)
  | [], _ => by simp [sumNY]
  | t :: r, h => by
    have ih := sumNY_bound s y (L := r) fun x hx => h x (by simp [hx])
    obtain ⟨_, _, _, _, h5, h6, _⟩ := h t (by simp)
    rw [sumNY, List.length_cons]
    push_cast
    split <;> omega
theorem sumNY_step {s : ByteArray} {y : Int} {l : List Tt} {k : Nat} (hk : k < l.length) : sumNY s y (l.take (k + 1)) = sumNY s y (l.take k) + (if nyB s y (onth l k) = true then (onth l k).mon else 0) := by
  rw [otake_snoc hk, sumNY_append]
  simp [sumNY]
theorem totE_ok {l : List Tt} (h : totE l = 0) : (∀ t ∈ l, OkT t) ∧ l.length ≤ 400 ∧ upT l = true ∧ checkE false l = 0 := by
  unfold totE at h
  by_cases h0 : checkE false l = 0
  · rw [if_pos h0] at h
    obtain ⟨h1, h2⟩ := okT_all h0
    refine ⟨h1, h2, ?_, h0⟩
    cases hu : upT l
    · rw [hu] at h; simp at h
    · rfl
  · rw [if_neg h0] at h
    exact absurd h h0
/-- What Sum answers. -/
def sumE (l : List Tt) (s : ByteArray) (y : Int) : Int := if totE l = 0 then (if namB s = true then (if yrB y = true then 0 else 3) else 1) else totE l
def sumV (l : List Tt) (s : ByteArray) (y : Int) : Int := if sumE l s y = 0 then sumNY s y l else 0
set_option maxRecDepth 100000 in
set_option maxHeartbeats 2000000 in
theorem sumOf_ref (a : Option Addr) (n cap : Nat) (l : List Tt) (s : ByteArray) (y : Int) (w : World) (hc : CameO w a l) (hn : l.length = n) (h0 : totE l = 0) :
    Calls Try.prog 23 #[.slice a n cap, .string s, .int .i64 y] w fun e w' => e = .returned (.int .i64 (sumNY s y l)) ∧ Go.RowKit.Below w.heap.size w w' := by
  have HO := Lib.hid (fun h0 => hc.open hn h0)
  have HN := Lib.hid hn
  have HOK := Lib.hid (totE_ok h0).1
  have HL4 := Lib.hid (totE_ok h0).2.1
  have hn63 : n ≤ 9223372036854775807 := by have := (totE_ok h0).2.1; omega
  clear hc hn h0
  go_enter Try.func23, Try.ntmps23
  go_wp2_with fail
  go_loopw [7, 8] (fun sv i wr => ∃ k : Nat, k ≤ n ∧ i = .int .i64 k ∧ sv = .int .i64 (sumNY s y (l.take k)) ∧ wr = w) (fun _ i _ => n - (intOf i).toNat)
  case atStart => exact ⟨0, Nat.zero_le _, rfl, rfl, rfl⟩
  case round =>
    obtain ⟨k, hk, rfl, rfl, rfl⟩ := hrel
    by_cases hlt : k < n
    · have hlt' : (k : Int) < (n : Int) := by omega
      obtain ⟨b, off, rfl, hcell⟩ := HO.out (by omega)
      obtain ⟨x0, x1, x2, x3⟩ := hcell _ (Below.refl _ _) k hlt
      clear hcell
      have HST := Lib.hid (sumNY_step (s := s) (y := y) (l := l) (k := k) (by rw [HN.out]; exact hlt))
      have HBD := Lib.hid (sumNY_bound s y (L := l.take k) (fun t ht => HOK.out t (List.mem_of_mem_take ht)))
      have HLK : Hid ((l.take k).length ≤ 400) := Lib.hid (by rw [List.length_take]; have := HL4.out; omega)
      have HOT := Lib.hid (HOK.out _ (onth_mem (l := l) (j := k) (by rw [HN.out]; exact hlt)))
      have HNY : Hid (nyB s y (onth l k) = (((onth l k).nam.toList == s.toList) && ((onth l k).yr == y))) := rfl
      obtain ⟨t, ht⟩ : ∃ t, onth l k = t := ⟨_, rfl⟩
      rw [ht] at x0 x1 x2 x3 HST HOT HNY
      clear ht
      obtain ⟨c, hc⟩ : ∃ c, sumNY s y (l.take k) = c := ⟨_, rfl⟩
      rw [hc] at HST HBD
      rw [hc]
      clear hc
      have hwrap : IntKind.i64.wrap (c + t.mon) = c + t.mon := IntWalk.i64_in _ (by
        have h1 := HBD.out
        have h2 := HLK.out
        obtain ⟨_, _, _, _, h5, h6, _⟩ := HOT.out
        omega)
      cases h1 : (t.nam.toList == s.toList)
      · rw [h1] at HNY
        rw [HNY.out] at HST
        go_wp2_with fail
        go_roundw
        case rel => exact ⟨k + 1, by omega, by go_num, by rw [HST.out]; simp, trivial⟩
        case measure => simp [intOf]; omega
      · cases h2 : (t.yr == y)
        · rw [h1, h2] at HNY
          rw [HNY.out] at HST
          go_wp2_with fail
          go_roundw
          case rel => exact ⟨k + 1, by omega, by go_num, by rw [HST.out]; simp, trivial⟩
          case measure => simp [intOf]; omega
        · rw [h1, h2] at HNY
          rw [HNY.out] at HST
          go_wp2_with fail
          go_roundw
          case rel => exact ⟨k + 1, by omega, by go_num, by rw [HST.out]; simp, trivial⟩
          case measure => simp [intOf]; omega
    · have hkn : k = n := by omega
      subst hkn
      have HTK : Hid (l.take k = l) := Lib.hid (by rw [← HN.out, List.take_length])
      rw [HTK.out]
      go_wp2_with fail
      go_ret
      exact ⟨rfl, Below.refl _ _⟩
set_option maxRecDepth 100000 in
set_option maxHeartbeats 2000000 in
theorem Sum_any (a : Option Addr) (n cap : Nat) (l : List Tt) (s : ByteArray) (y : Int) (w : World) (hc : CameO w a l) (hn : l.length = n) (hm : n ≤ maxLen) :
    Calls Try.prog 21 #[.slice a n cap, .string s, .int .i64 y] w fun e w' => e = .returned (.tuple #[.int .i64 (sumV l s y), .int .i64 (sumE l s y)]) ∧ Go.RowKit.Below w.heap.size w w' := by
  have HC := Lib.hid hc
  have HM := Lib.hid hm
  have HN := Lib.hid hn
  have HE : Hid (sumE l s y = if totE l = 0 then (if namB s = true then (if yrB y = true then 0 else 3) else 1) else totE l) := rfl
  have HV : Hid (sumV l s y = if sumE l s y = 0 then sumNY s y l else 0) := rfl
  clear hc hn hm
  go_enter Try.func21, Try.ntmps21
  go_wp2_with fail
  refine (Check_any a n cap l _ HC.out HN.out HM.out).mono ?_
  rintro e w1 ⟨rfl, hb⟩
  have HB1 := Lib.hid hb
  have HC1 := Lib.hid (HC.out.below hb)
  clear hb
  by_cases h0 : totE l = 0
  · rw [if_pos h0] at HE
    rw [h0]
    go_wp2_with fail
    refine (IsName_any s _).mono ?_
    rintro e w2 ⟨bn, rfl, hbn, hbel⟩
    have HB2 := Lib.hid (HB1.out.trans (hbel.mono HB1.out.size))
    have HC2 := Lib.hid (HC1.out.below hbel)
    clear hbel
    cases bn
    · have hnb : namB s = false := decide_eq_false (fun h => by have := hbn.2 h; cases this)
      rw [hnb] at HE
      have HV2 : Hid (sumV l s y = 0) := Lib.hid (by rw [HV.out, HE.out]; simp)
      clear hbn h0
      go_wp2_with fail
      go_ret2
      exact ⟨by rw [HV2.out, HE.out]; rfl, HB2.out⟩
    · have hnb : namB s = true := decide_eq_true (hbn.1 rfl)
      rw [hnb] at HE
      clear hbn
      cases hy : yrB y
      · rw [hy] at HE
        have HV2 : Hid (sumV l s y = 0) := Lib.hid (by rw [HV.out, HE.out]; simp)
        clear h0
        go_wp2_with (first | (go_at_call 38; refine (isYear_any _ _).mono ?_; rintro e w' ⟨rfl, h'⟩; subst w'; rw [hy]))
        go_ret2
        exact ⟨by rw [HV2.out, HE.out]; rfl, HB2.out⟩
      · rw [hy] at HE
        have HV2 : Hid (sumV l s y = sumNY s y l) := Lib.hid (by rw [HV.out, HE.out]; simp)
        have HO := Lib.hid (fun h0 => HC2.out.open HN.out h0)
        have HOK := Lib.hid (totE_ok h0).1
        have HL4 := Lib.hid (totE_ok h0).2.1
        have hn63 : n ≤ 9223372036854775807 := by have := (totE_ok h0).2.1; have := HN.out; omega
        clear h0
        go_wp2_with (first | (go_at_call 38; refine (isYear_any _ _).mono ?_; rintro e w' ⟨rfl, h'⟩; subst w'; rw [hy]))
        go_loopw [9, 27] (fun sv i wr => ∃ k : Nat, k ≤ n ∧ i = .int .i64 k ∧ sv = .int .i64 (sumNY s y (l.take k)) ∧ Go.RowKit.Below w2.heap.size w2 wr) (fun _ i _ => n - (intOf i).toNat)
        case atStart => exact ⟨0, Nat.zero_le _, rfl, rfl, Below.refl _ _⟩
        case round =>
          obtain ⟨k, hk, rfl, rfl, hb⟩ := hrel
          have HB := Lib.hid hb
          clear hb
          by_cases hlt : k < n
          · have hlt' : (k : Int) < (n : Int) := by omega
            obtain ⟨b, off, rfl, hcell⟩ := HO.out (by omega)
            obtain ⟨x0, x1, x2, x3⟩ := hcell _ HB.out k hlt
            clear hcell
            have HST := Lib.hid (sumNY_step (s := s) (y := y) (l := l) (k := k) (by rw [HN.out]; exact hlt))
            have HBD := Lib.hid (sumNY_bound s y (L := l.take k) (fun t ht => HOK.out t (List.mem_of_mem_take ht)))
            have HLK : Hid ((l.take k).length ≤ 400) := Lib.hid (by rw [List.length_take]; have := HL4.out; omega)
            have HOT := Lib.hid (HOK.out _ (onth_mem (l := l) (j := k) (by rw [HN.out]; exact hlt)))
            have HNY : Hid (nyB s y (onth l k) = (((onth l k).nam.toList == s.toList) && ((onth l k).yr == y))) := rfl
            obtain ⟨t, ht⟩ : ∃ t, onth l k = t := ⟨_, rfl⟩
            rw [ht] at x0 x1 x2 x3 HST HOT HNY
            clear ht
            obtain ⟨c, hc⟩ : ∃ c, sumNY s y (l.take k) = c := ⟨_, rfl⟩
            rw [hc] at HST HBD
            rw [hc]
            clear hc
            have hwrap : IntKind.i64.wrap (c + t.mon) = c + t.mon := IntWalk.i64_in _ (by
              have h1 := HBD.out
              have h2 := HLK.out
              obtain ⟨_, _, _, _, h5, h6, _⟩ := HOT.out
              omega)
            have HBX := Lib.hid (HB.out.alloc HB.out.size (.cells #[.int .i64 t.per, .string t.nam, .int .i64 t.yr, .int .i64 t.mon] 50))
            cases h1 : (t.nam.toList == s.toList)
            · rw [h1] at HNY
              rw [HNY.out] at HST
              go_wp2_with fail
              go_roundw
              case rel => exact ⟨k + 1, by omega, by go_num, by rw [HST.out]; simp, HBX.out⟩
              case measure => simp [intOf]; omega
            · cases h2 : (t.yr == y)
              · rw [h1, h2] at HNY
                rw [HNY.out] at HST
                go_wp2_with fail
                go_roundw
                case rel => exact ⟨k + 1, by omega, by go_num, by rw [HST.out]; simp, HBX.out⟩
                case measure => simp [intOf]; omega
              · rw [h1, h2] at HNY
                rw [HNY.out] at HST
                go_wp2_with fail
                go_roundw
                case rel => exact ⟨k + 1, by omega, by go_num, by rw [HST.out]; simp, HBX.out⟩
                case measure => simp [intOf]; omega
          · have hkn : k = n := by omega
            subst hkn
            have HTK : Hid (l.take k = l) := Lib.hid (by rw [← HN.out, List.take_length])
            rw [HTK.out]
            go_wp2_with fail
            go_ret2
            exact ⟨by rw [HV2.out, HE.out]; rfl, HB2.out.trans (HB.out.mono HB2.out.size)⟩
  · rw [if_neg h0] at HE
    have HV2 : Hid (sumV l s y = 0) := Lib.hid (by rw [HV.out, HE.out, if_neg h0])
    have h0' : (totE l != 0) = true := by simp [h0]
    obtain ⟨c, hc⟩ : ∃ c, totE l = c := ⟨_, rfl⟩
    rw [hc] at HE h0' ⊢
    clear h0 hc
    go_wp2_with fail
    go_ret2
    exact ⟨by rw [HV2.out, HE.out]; rfl, HB1.out⟩
end Go.Proofs.Ytfamnlaignjhkaa
