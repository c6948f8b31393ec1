/-
  Promises P1, P2: numbers with noughts ahead: the walks of padded and of the reference's Digits (of one) and Padded: both are sfx.
-/
import Derived.Test.YtdfgkngfpedgdaaDoorBRef
import Derived.Test.YtdfgkngfpedgdaaDoorCText
import Derived.Lib.Repeat
namespace Go.Proofs.YtdfgkngfpedgdaaDoor
open Go.RowKit

/-- The last d digits of a number. -/
def sfx (n : Nat) : Nat → List UInt8
  | 0 => []
  | d + 1 => dig (n / 10 ^ d % 10) :: sfx n d
theorem sfx_len (n : Nat) : ∀ d, (sfx n d).length = d
  | 0 => rfl
  | d + 1 => by rw [sfx, List.length_cons, sfx_len n d]
theorem sfx_snoc (n : Nat) : ∀ d, sfx n (d + 1) = sfx (n / 10) d ++ [dig (n % 10)]
  | 0 => by simp [sfx]
  | d + 1 => by
    rw [sfx, sfx_snoc n d]
    show _ = dig (n / 10 / 10 ^ d % 10) :: sfx (n / 10) d ++ [dig (n % 10)]
    rw [Nat.div_div_eq_div_mul, Nat.pow_succ, Nat.mul_comm (10 ^ d) 10]
    rfl
theorem sfx_zero : ∀ d, sfx 0 d = List.replicate d 48
  | 0 => rfl
  | d + 1 => by rw [sfx, sfx_zero d, List.replicate_succ]; simp [dig]
theorem dec_pad : ∀ (d n : Nat), n < 10 ^ (d + 1) → (Lib.decDigits n).length ≤ d + 1 ∧ List.replicate (d + 1 - (Lib.decDigits n).length) 48 ++ Lib.decDigits n = sfx n (d + 1)
  | 0, n, h => by
    have h' : n < 10 := by simpa using h
    rw [Lib.decDigits_one h']
    refine ⟨by simp, ?_⟩
    simp [sfx, dig, Nat.mod_eq_of_lt h']
  | d + 1, n, h => by
    by_cases h10 : n < 10
    · rw [Lib.decDigits_one h10]
      refine ⟨by simp, ?_⟩
      rw [sfx_snoc, Nat.div_eq_of_lt h10, sfx_zero, Nat.mod_eq_of_lt h10]
      simp [dig]
    · have e : Lib.decDigits n = Lib.decDigits (n / 10) ++ [dig (n % 10)] := by
        rw [Lib.decDigits, dif_neg h10]; rfl
      obtain ⟨i1, i2⟩ := dec_pad d (n / 10) (by rw [Nat.pow_succ] at h; omega)
      rw [e, List.length_append, sfx_snoc, ← i2]
      refine ⟨by simp; omega, ?_⟩
      simp
def padT (n d : Nat) : ByteArray := ⟨(sfx n d).toArray⟩
theorem padT_list (n d : Nat) : (padT n d).data.toList = sfx n d := by simp [padT]
theorem padT_size (n d : Nat) : (padT n d).size = d := by rw [size_toList, padT_list, sfx_len]
theorem repeatL_one (c : UInt8) : ∀ n, Lib.repeatL [c] n = List.replicate n c := by
  intro n
  induction n with
  | zero => simp [Lib.repeatL]
  | succ k ih => simpa [Lib.repeatL, List.replicate_succ] using ih
set_option maxRecDepth 100000 in
set_option maxHeartbeats 1000000 in
theorem padded_any (n d : Nat) (w : World) (ht : Tab w) (hd : d < 15) (hn : n < 10 ^ (d + 1)) :
    Calls Tryd.prog 32 #[.int .i64 (n : Int), .int .i64 ((d : Int) + 1)] w fun e w' => e = .returned (.string (padT n (d + 1))) ∧ Below w.heap.size w w' := by
  obtain ⟨hl, hp⟩ := dec_pad d n hn
  have hn15 : n < 10 ^ 15 := Nat.lt_of_lt_of_le hn (Nat.pow_le_pow_right (by omega) (by omega))
  have e15 : (10 : Nat) ^ 15 = 1000000000000000 := by decide
  have HT := Lib.hid ht
  clear ht hn
  go_enter Tryd.func32, Tryd.ntmps32
  go_wp2_with fail
  refine (itoa_any (n : Int) (by omega) (by omega) w HT.out).mono ?_
  rintro e w1 ⟨s, rfl, hs, hs21, hb1⟩
  have hs' : s.data.toList = Lib.decDigits n := by rw [hs.out, itoa_nat]
  have HB1 := Lib.hid hb1
  have HS := Lib.hid hs'
  have hsz : s.size = (Lib.decDigits n).length := by rw [size_toList, hs']
  obtain ⟨r, hr⟩ : ∃ r : Nat, r = d + 1 - s.size := ⟨_, rfl⟩
  have hrI : (d : Int) + 1 - (s.size : Int) = (r : Int) := by omega
  have HP : Hid (List.replicate r 48 ++ s.data.toList = sfx n (d + 1)) := by unfold Hid; rw [hr, hsz, hs']; exact hp
  have hr15 : r ≤ 15 := by omega
  have HR : Hid (max 0 ((d : Int) + 1 - (s.size : Int)) = (r : Int)) := by unfold Hid; omega
  have HRP : Hid (Lib.repeatL (⟨#[48]⟩ : ByteArray).data.toList r = List.replicate r 48) := repeatL_one 48 r
  clear hs hs' hb1 hp hl hsz hn15 e15 hr hrI
  go_wp2_with fail
  rw [HR.out]
  refine (sh_strings_Repeat ⟨#[48]⟩ r w1 (by omega) (by show 1 * r ≤ _; omega)).mono ?_
  rintro e w2 ⟨rfl, hb2⟩
  have HB2 := Lib.hid (HB1.out.trans (hb2.mono HB1.out.size))
  rw [HRP.out]
  clear hb2
  go_wp2_with fail
  go_ret
  refine ⟨?_, HB2.out⟩
  refine congrArg (fun x => Ending.returned (Value.string x)) (ba_ext ?_)
  rw [ba_append, padT_list, ← HP.out]
  simp
/-- The reference's Digits of one digit. -/
theorem dig_toNat (m : Nat) (h : m < 10) : ((dig m).toNat : Int) = 48 + (m : Int) := by
  unfold dig
  rw [UInt8.toNat_ofNat']
  omega
theorem conv_one (m : Nat) (hm : m < 10) (w : World) :
    (convert 51 9 (.slice (some ⟨w.heap.size, 0, none⟩) 1 1)).run Tryd.prog (w.alloc (.cells #[.int .u8 (48 + (m : Int))] 5)) = .ok (.string ⟨#[dig m]⟩) (w.alloc (.cells #[.int .u8 (48 + (m : Int))] 5)) := by
  have := run_convert_bytes_back (P := Tryd.prog) (w.alloc (.cells #[.int .u8 (48 + (m : Int))] 5)) 51 9 5 ⟨w.heap.size, 0, none⟩ 1 [dig m] Tryd.underlying51 Tryd.underlying5 Tryd.underlying9 (fun j hj => by
    match j, hj with
    | 0, _ =>
      rw [Addr.add_lit, Nat.zero_add, World.cell?_alloc_at (w := w) _ _ _ _ rfl]
      simp [dig_toNat m hm])
  exact this
theorem bbelow_box (w : World) (o : Obj) : Below w.heap.size w (w.alloc o) := (Below.refl w.heap.size w).alloc (Nat.le_refl _) o
set_option maxHeartbeats 1000000 in
theorem digits_one_ref (m : Nat) (w : World) (hm : m < 10) : Calls Tryd.prog 49 #[.int .i64 (m : Int)] w fun e w' => e = .returned (.string ⟨#[dig m]⟩) ∧ Below w.heap.size w w' := by
  have hcv := conv_one m hm
  go_enter Tryd.func49, Tryd.ntmps49
  go_wp2_with fail
  go_ret
  exact ⟨rfl, bbelow_box _ _⟩
set_option maxRecDepth 100000 in
set_option maxHeartbeats 1000000 in
theorem padded_ref (n d : Nat) (w : World) (hd : d ≤ 15) (hn : n < 9223372036854775807) :
    Calls Tryd.prog 33 #[.int .i64 (n : Int), .int .i64 (d : Int)] w fun e w' => e = .returned (.string (padT n d)) ∧ Below w.heap.size w w' := by
  go_enter Tryd.func33, Tryd.ntmps33
  go_wp2_with fail
  go_loopw [0, 1, 5] (fun nv dv sv wr => ∃ k : Nat, k ≤ d ∧ nv = .int .i64 ((n / 10 ^ k : Nat) : Int) ∧ dv = .int .i64 ((d : Int) - k) ∧ sv = .string (padT n k) ∧ Below w.heap.size w wr) (fun _ dv _ _ => (intOf dv).toNat)
  case atStart => exact ⟨0, Nat.zero_le _, by simp, by simp, rfl, Below.refl _ _⟩
  case round =>
    obtain ⟨k, hk, rfl, rfl, rfl, hb⟩ := hrel
    have HB := Lib.hid hb
    clear hb
    by_cases hlt : k < d
    · have hlt' : 0 < (d : Int) - k := by omega
      have hq : n / 10 ^ k ≤ n := Nat.div_le_self _ _
      have HN : Hid (n / 10 ^ (k + 1) = n / 10 ^ k / 10) := by unfold Hid; rw [Nat.div_div_eq_div_mul, Nat.pow_succ]
      have HS : Hid ((⟨#[dig (n / 10 ^ k % 10)]⟩ : ByteArray) ++ padT n k = padT n (k + 1)) := by
        apply ba_ext
        rw [ba_append, padT_list, padT_list]
        rfl
      have HSZ := Lib.hid (padT_size n k)
      generalize n / 10 ^ k = q at *
      obtain ⟨m, hm⟩ : ∃ m, m = q % 10 := ⟨_, rfl⟩
      obtain ⟨p, hp⟩ : ∃ p, p = q / 10 := ⟨_, rfl⟩
      have hr1 : (q : Int).tmod 10 = (m : Int) := by rw [Int.tmod_eq_emod_of_nonneg (by omega)]; omega
      have hr2 : (q : Int) % 10 = (m : Int) := by omega
      have hq1 : (q : Int).tdiv 10 = (p : Int) := by rw [Int.tdiv_eq_ediv_of_nonneg (by omega)]; omega
      have hq2 : (q : Int) / 10 = (p : Int) := by omega
      have hm10 : m < 10 := by rw [hm]; exact Nat.mod_lt _ (by omega)
      rw [← hm] at HS
      rw [← hp] at HN
      clear hm hp
      go_wp2_with fail
      refine (digits_one_ref m _ hm10).mono ?_
      rintro e w1 ⟨rfl, hb1⟩
      have HB1 := Lib.hid (HB.out.trans (hb1.mono HB.out.size))
      clear hb1
      have hsum : (⟨#[dig m]⟩ : ByteArray).size + (padT n k).size ≤ 9223372036854775807 := by rw [HSZ.out]; show 1 + k ≤ _; omega
      go_wp2_with fail
      go_roundw
      case rel => exact ⟨k + 1, by omega, by rw [HN.out], by simp; omega, by rw [← HS.out], HB1.out⟩
      case measure => simp [intOf]; omega
    · obtain rfl : k = d := by omega
      have hnl : ¬ (0 < (k : Int) - k) := by omega
      go_wp2_with fail
      go_ret
      exact ⟨rfl, HB.out⟩
end Go.Proofs.YtdfgkngfpedgdaaDoor
