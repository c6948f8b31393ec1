/-
  Promise U3: the walks of the reference's LetterAt and Shown.
-/
import Derived.Test.YtmchanddfodhaaaDoorShBox
namespace Go.Proofs.YtmchanddfodhaaaDoor
open Go.RowKit Go.Shelf Mny

/-- The number that a letter's bytes make, up to the one behind the first k that follow; do they follow? -/
def vK (s : ByteArray) (p : Nat) (v : Int) : Nat → Int
  | 0 => v
  | k + 1 => 64 * vK s p v k + bt s (p + k + 1) - 128
def cK (s : ByteArray) (p : Nat) : Nat → Bool
  | 0 => true
  | k + 1 => cK s p k && contB s (p + k + 1)
theorem cK_all {s : ByteArray} {p : Nat} : ∀ {k : Nat}, (∀ j, j < k → contB s (p + j + 1) = true) → cK s p k = true
  | 0, _ => rfl
  | k + 1, h => by rw [cK, cK_all fun j hj => h j (by omega), h k (by omega)]; rfl
theorem cK_not {s : ByteArray} {p : Nat} : ∀ {n k : Nat}, k < n → contB s (p + k + 1) = false → cK s p n = false
  | 0, k, h, _ => by omega
  | n + 1, k, h, hc => by
    rw [cK]
    by_cases e : k = n
    · subst e; rw [hc, Bool.and_false]
    · rw [cK_not (n := n) (k := k) (by omega) hc, Bool.false_and]
theorem vK_bd {s : ByteArray} {p : Nat} {v : Int} (h0 : 0 ≤ v) (h1 : v ≤ 31) : ∀ {k : Nat}, k ≤ 3 → (∀ j, j < k → contB s (p + j + 1) = true) → 0 ≤ vK s p v k ∧ vK s p v k ≤ 8388607 := by
  intro k hk h
  have b : ∀ j, j < k → 128 ≤ bt s (p + j + 1) ∧ bt s (p + j + 1) < 192 := fun j hj => of_decide_eq_true (h j hj)
  match k, hk with
  | 0, _ => simp only [vK]; omega
  | 1, _ => have := b 0 (by omega); simp only [vK]; omega
  | 2, _ => have := b 0 (by omega); have := b 1 (by omega); simp only [vK]; omega
  | 3, _ => have := b 0 (by omega); have := b 1 (by omega); have := b 2 (by omega); simp only [vK]; omega
def letG (s : ByteArray) (p n : Nat) (least sub : Int) : Int := if cK s p (n - 1) = true ∧ okV least (vK s p (bt s p - sub) (n - 1)) = true then (n : Int) else 0
theorem letG_cont {s : ByteArray} {p n : Nat} {least sub : Int} (h : cK s p (n - 1) = false) : letG s p n least sub = 0 := by unfold letG; rw [if_neg (by rw [h]; simp)]
theorem letG_val {s : ByteArray} {p n : Nat} {least sub : Int} (h : okV least (vK s p (bt s p - sub) (n - 1)) = false) : letG s p n least sub = 0 := by unfold letG; rw [if_neg (by rw [h]; simp)]
theorem letG_ok {s : ByteArray} {p n : Nat} {least sub : Int} (h : cK s p (n - 1) = true) (h2 : okV least (vK s p (bt s p - sub) (n - 1)) = true) : letG s p n least sub = (n : Int) := by unfold letG; rw [if_pos ⟨h, h2⟩]
set_option maxRecDepth 100000 in
set_option maxHeartbeats 2000000 in
theorem let2_ref (s : ByteArray) (p : Nat) (w : World) (hs : s.size ≤ 200) (hp : p < s.size) (h0 : 192 ≤ bt s p) (h1 : bt s p < 224) :
    Calls Tryd.prog 56 #[.string s, .int .i64 (p : Int)] w fun e w' => e = .returned (.int .i64 (letG s p 2 128 192)) ∧ w' = w := by
  have hb := bt_in hp
  have HCO := Lib.hid (@letG_cont s p 2 128 192)
  have HVA := Lib.hid (@letG_val s p 2 128 192)
  have HOK := Lib.hid (@letG_ok s p 2 128 192)
  generalize letG s p 2 128 192 = G at *
  obtain ⟨c, hc⟩ : ∃ c, bt s p = c := ⟨_, rfl⟩
  rw [hc] at h0 h1 HVA HOK
  have hgc : (s[p].toNat : Int) = c := by rw [← hb, hc]
  clear hb hc
  have hpI : (p : Int) < (s.size : Int) := by omega
  have hp0 : (0 : Int) ≤ (p : Int) := by omega
  have q0 : ¬ c < 128 := by omega
  go_enter Tryd.func56, Tryd.ntmps56
  go_wp2_with fail
  go_loopw [8, 9] (fun v i wr => ∃ k : Nat, k < 2 ∧ v = .int .i64 (vK s p (c - 192) k) ∧ i = .int .i64 ((k : Int) + 1) ∧ (∀ j, j < k → contB s (p + j + 1) = true) ∧ wr = w) (fun _ i _ => 2 - (intOf i).toNat)
  case atStart => exact ⟨0, by omega, rfl, rfl, fun j hj => by omega, rfl⟩
  case round =>
    obtain ⟨k, hk, rfl, rfl, hall, hwr⟩ := hrel
    subst hwr
    have HA := Lib.hid hall
    obtain ⟨b0, b1⟩ := vK_bd (s := s) (p := p) (v := c - 192) (by omega) (by omega) (k := k) (by omega) hall
    clear hall
    by_cases hlt : k + 1 < 2
    · have hltI : (k : Int) + 1 < 2 := by omega
      have HVN : Hid (vK s p (c - 192) (k + 1) = 64 * vK s p (c - 192) k + bt s (p + k + 1) - 128) := rfl
      have HZN : Hid (contB s (p + k + 1) = false → G = 0) := fun h => HCO.out (cK_not (by omega) h)
      clear HCO HVA HOK
      generalize vK s p (c - 192) k = vk at *
      by_cases hin : p + k + 1 < s.size
      · have hb2 := bt_in hin
        have hinI : (p : Int) + ((k : Int) + 1) < (s.size : Int) := by omega
        have hin0 : (0 : Int) ≤ (p : Int) + ((k : Int) + 1) := by omega
        have HCB : Hid (contB s (p + k + 1) = decide (128 ≤ bt s (p + k + 1) ∧ bt s (p + k + 1) < 192)) := rfl
        obtain ⟨d, hd⟩ : ∃ d, bt s (p + k + 1) = d := ⟨_, rfl⟩
        rw [hd] at HVN HCB
        have hgd : (s[p + k + 1].toNat : Int) = d := by rw [← hb2, hd]
        have hd2 := bt_hi s (p + k + 1)
        rw [hd] at hd2
        have htn : ((p : Int) + ((k : Int) + 1)).toNat = p + k + 1 := by omega
        have hge : 0 ≤ d := by omega
        clear hb2 hd
        by_cases hlo : d < 128
        · have HZ := Lib.hid (HZN.out (by rw [HCB.out]; exact decide_eq_false (by omega)))
          go_wp2_with fail
          go_ret
          exact ⟨kret_int HZ.out.symm, rfl⟩
        · by_cases hhi : 192 ≤ d
          · have HZ := Lib.hid (HZN.out (by rw [HCB.out]; exact decide_eq_false (by omega)))
            go_wp2_with fail
            go_ret
            exact ⟨kret_int HZ.out.symm, rfl⟩
          · have HNX : Hid (∀ j, j < k + 1 → contB s (p + j + 1) = true) := fun j hj => by
              by_cases e : j = k
              · subst e; rw [HCB.out]; exact decide_eq_true (by omega)
              · exact HA.out j (by omega)
            go_wp2_with fail
            go_roundw
            case rel => exact ⟨k + 1, by omega, by rw [HVN.out], by go_num, HNX.out, by first | trivial | rfl⟩
            case measure => simp [intOf]; omega
      · have hinI : ¬ ((p : Int) + ((k : Int) + 1) < (s.size : Int)) := by omega
        have HZ := Lib.hid (HZN.out (by unfold contB; rw [bt_out hin]; rfl))
        go_wp2_with fail
        go_ret
        exact ⟨kret_int HZ.out.symm, rfl⟩
    · obtain rfl : k = 2 - 1 := by omega
      have HCK := Lib.hid (cK_all HA.out)
      have HOKV : Hid (okV 128 (vK s p (c - 192) (2 - 1)) = decide (128 ≤ vK s p (c - 192) (2 - 1) ∧ vK s p (c - 192) (2 - 1) ≤ 1114111 ∧ (vK s p (c - 192) (2 - 1) < 55296 ∨ 57344 ≤ vK s p (c - 192) (2 - 1)))) := rfl
      have HOK2 := Lib.hid (HOK.out HCK.out)
      rw [HOKV.out] at HVA HOK2
      clear HCO HCK HOK HOKV HA
      generalize vK s p (c - 192) (2 - 1) = vn at *
      have hltI : ¬ (((2 - 1 : Nat) : Int) + 1 < 2) := by omega
      by_cases t1 : vn < 128
      · have HZ := Lib.hid (HVA.out (decide_eq_false (by omega)))
        go_wp2_with fail
        go_ret
        exact ⟨kret_int HZ.out.symm, rfl⟩
      · by_cases t2 : 1114111 < vn
        · have HZ := Lib.hid (HVA.out (decide_eq_false (by omega)))
          go_wp2_with fail
          go_ret
          exact ⟨kret_int HZ.out.symm, rfl⟩
        · by_cases t3 : 55296 ≤ vn
          · by_cases t4 : vn < 57344
            · have HZ := Lib.hid (HVA.out (decide_eq_false (by omega)))
              go_wp2_with fail
              go_ret
              exact ⟨kret_int HZ.out.symm, rfl⟩
            · have HZ := Lib.hid (HOK2.out (decide_eq_true (by omega)))
              go_wp2_with fail
              go_ret
              exact ⟨kret_int HZ.out.symm, rfl⟩
          · have HZ := Lib.hid (HOK2.out (decide_eq_true (by omega)))
            go_wp2_with fail
            go_ret
            exact ⟨kret_int HZ.out.symm, rfl⟩
set_option maxRecDepth 100000 in
set_option maxHeartbeats 2000000 in
theorem let3_ref (s : ByteArray) (p : Nat) (w : World) (hs : s.size ≤ 200) (hp : p < s.size) (h0 : 224 ≤ bt s p) (h1 : bt s p < 240) :
    Calls Tryd.prog 56 #[.string s, .int .i64 (p : Int)] w fun e w' => e = .returned (.int .i64 (letG s p 3 2048 224)) ∧ w' = w := by
  have hb := bt_in hp
  have HCO := Lib.hid (@letG_cont s p 3 2048 224)
  have HVA := Lib.hid (@letG_val s p 3 2048 224)
  have HOK := Lib.hid (@letG_ok s p 3 2048 224)
  generalize letG s p 3 2048 224 = G at *
  obtain ⟨c, hc⟩ : ∃ c, bt s p = c := ⟨_, rfl⟩
  rw [hc] at h0 h1 HVA HOK
  have hgc : (s[p].toNat : Int) = c := by rw [← hb, hc]
  clear hb hc
  have hpI : (p : Int) < (s.size : Int) := by omega
  have hp0 : (0 : Int) ≤ (p : Int) := by omega
  have q0 : ¬ c < 128 := by omega
  go_enter Tryd.func56, Tryd.ntmps56
  go_wp2_with fail
  go_loopw [8, 9] (fun v i wr => ∃ k : Nat, k < 3 ∧ v = .int .i64 (vK s p (c - 224) k) ∧ i = .int .i64 ((k : Int) + 1) ∧ (∀ j, j < k → contB s (p + j + 1) = true) ∧ wr = w) (fun _ i _ => 3 - (intOf i).toNat)
  case atStart => exact ⟨0, by omega, rfl, rfl, fun j hj => by omega, rfl⟩
  case round =>
    obtain ⟨k, hk, rfl, rfl, hall, hwr⟩ := hrel
    subst hwr
    have HA := Lib.hid hall
    obtain ⟨b0, b1⟩ := vK_bd (s := s) (p := p) (v := c - 224) (by omega) (by omega) (k := k) (by omega) hall
    clear hall
    by_cases hlt : k + 1 < 3
    · have hltI : (k : Int) + 1 < 3 := by omega
      have HVN : Hid (vK s p (c - 224) (k + 1) = 64 * vK s p (c - 224) k + bt s (p + k + 1) - 128) := rfl
      have HZN : Hid (contB s (p + k + 1) = false → G = 0) := fun h => HCO.out (cK_not (by omega) h)
      clear HCO HVA HOK
      generalize vK s p (c - 224) k = vk at *
      by_cases hin : p + k + 1 < s.size
      · have hb2 := bt_in hin
        have hinI : (p : Int) + ((k : Int) + 1) < (s.size : Int) := by omega
        have hin0 : (0 : Int) ≤ (p : Int) + ((k : Int) + 1) := by omega
        have HCB : Hid (contB s (p + k + 1) = decide (128 ≤ bt s (p + k + 1) ∧ bt s (p + k + 1) < 192)) := rfl
        obtain ⟨d, hd⟩ : ∃ d, bt s (p + k + 1) = d := ⟨_, rfl⟩
        rw [hd] at HVN HCB
        have hgd : (s[p + k + 1].toNat : Int) = d := by rw [← hb2, hd]
        have hd2 := bt_hi s (p + k + 1)
        rw [hd] at hd2
        have htn : ((p : Int) + ((k : Int) + 1)).toNat = p + k + 1 := by omega
        have hge : 0 ≤ d := by omega
        clear hb2 hd
        by_cases hlo : d < 128
        · have HZ := Lib.hid (HZN.out (by rw [HCB.out]; exact decide_eq_false (by omega)))
          go_wp2_with fail
          go_ret
          exact ⟨kret_int HZ.out.symm, rfl⟩
        · by_cases hhi : 192 ≤ d
          · have HZ := Lib.hid (HZN.out (by rw [HCB.out]; exact decide_eq_false (by omega)))
            go_wp2_with fail
            go_ret
            exact ⟨kret_int HZ.out.symm, rfl⟩
          · have HNX : Hid (∀ j, j < k + 1 → contB s (p + j + 1) = true) := fun j hj => by
              by_cases e : j = k
              · subst e; rw [HCB.out]; exact decide_eq_true (by omega)
              · exact HA.out j (by omega)
            go_wp2_with fail
            go_roundw
            case rel => exact ⟨k + 1, by omega, by rw [HVN.out], by go_num, HNX.out, by first | trivial | rfl⟩
            case measure => simp [intOf]; omega
      · have hinI : ¬ ((p : Int) + ((k : Int) + 1) < (s.size : Int)) := by omega
        have HZ := Lib.hid (HZN.out (by unfold contB; rw [bt_out hin]; rfl))
        go_wp2_with fail
        go_ret
        exact ⟨kret_int HZ.out.symm, rfl⟩
    · obtain rfl : k = 3 - 1 := by omega
      have HCK := Lib.hid (cK_all HA.out)
      have HOKV : Hid (okV 2048 (vK s p (c - 224) (3 - 1)) = decide (2048 ≤ vK s p (c - 224) (3 - 1) ∧ vK s p (c - 224) (3 - 1) ≤ 1114111 ∧ (vK s p (c - 224) (3 - 1) < 55296 ∨ 57344 ≤ vK s p (c - 224) (3 - 1)))) := rfl
      have HOK2 := Lib.hid (HOK.out HCK.out)
      rw [HOKV.out] at HVA HOK2
      clear HCO HCK HOK HOKV HA
      generalize vK s p (c - 224) (3 - 1) = vn at *
      have hltI : ¬ (((3 - 1 : Nat) : Int) + 1 < 3) := by omega
      by_cases t1 : vn < 2048
      · have HZ := Lib.hid (HVA.out (decide_eq_false (by omega)))
        go_wp2_with fail
        go_ret
        exact ⟨kret_int HZ.out.symm, rfl⟩
      · by_cases t2 : 1114111 < vn
        · have HZ := Lib.hid (HVA.out (decide_eq_false (by omega)))
          go_wp2_with fail
          go_ret
          exact ⟨kret_int HZ.out.symm, rfl⟩
        · by_cases t3 : 55296 ≤ vn
          · by_cases t4 : vn < 57344
            · have HZ := Lib.hid (HVA.out (decide_eq_false (by omega)))
              go_wp2_with fail
              go_ret
              exact ⟨kret_int HZ.out.symm, rfl⟩
            · have HZ := Lib.hid (HOK2.out (decide_eq_true (by omega)))
              go_wp2_with fail
              go_ret
              exact ⟨kret_int HZ.out.symm, rfl⟩
          · have HZ := Lib.hid (HOK2.out (decide_eq_true (by omega)))
            go_wp2_with fail
            go_ret
            exact ⟨kret_int HZ.out.symm, rfl⟩
set_option maxRecDepth 100000 in
set_option maxHeartbeats 2000000 in
theorem let4_ref (s : ByteArray) (p : Nat) (w : World) (hs : s.size ≤ 200) (hp : p < s.size) (h0 : 240 ≤ bt s p) (h1 : bt s p < 248) :
    Calls Tryd.prog 56 #[.string s, .int .i64 (p : Int)] w fun e w' => e = .returned (.int .i64 (letG s p 4 65536 240)) ∧ w' = w := by
  have hb := bt_in hp
  have HCO := Lib.hid (@letG_cont s p 4 65536 240)
  have HVA := Lib.hid (@letG_val s p 4 65536 240)
  have HOK := Lib.hid (@letG_ok s p 4 65536 240)
  generalize letG s p 4 65536 240 = G at *
  obtain ⟨c, hc⟩ : ∃ c, bt s p = c := ⟨_, rfl⟩
  rw [hc] at h0 h1 HVA HOK
  have hgc : (s[p].toNat : Int) = c := by rw [← hb, hc]
  clear hb hc
  have hpI : (p : Int) < (s.size : Int) := by omega
  have hp0 : (0 : Int) ≤ (p : Int) := by omega
  have q0 : ¬ c < 128 := by omega
  go_enter Tryd.func56, Tryd.ntmps56
  go_wp2_with fail
  go_loopw [8, 9] (fun v i wr => ∃ k : Nat, k < 4 ∧ v = .int .i64 (vK s p (c - 240) k) ∧ i = .int .i64 ((k : Int) + 1) ∧ (∀ j, j < k → contB s (p + j + 1) = true) ∧ wr = w) (fun _ i _ => 4 - (intOf i).toNat)
  case atStart => exact ⟨0, by omega, rfl, rfl, fun j hj => by omega, rfl⟩
  case round =>
    obtain ⟨k, hk, rfl, rfl, hall, hwr⟩ := hrel
    subst hwr
    have HA := Lib.hid hall
    obtain ⟨b0, b1⟩ := vK_bd (s := s) (p := p) (v := c - 240) (by omega) (by omega) (k := k) (by omega) hall
    clear hall
    by_cases hlt : k + 1 < 4
    · have hltI : (k : Int) + 1 < 4 := by omega
      have HVN : Hid (vK s p (c - 240) (k + 1) = 64 * vK s p (c - 240) k + bt s (p + k + 1) - 128) := rfl
      have HZN : Hid (contB s (p + k + 1) = false → G = 0) := fun h => HCO.out (cK_not (by omega) h)
      clear HCO HVA HOK
      generalize vK s p (c - 240) k = vk at *
      by_cases hin : p + k + 1 < s.size
      · have hb2 := bt_in hin
        have hinI : (p : Int) + ((k : Int) + 1) < (s.size : Int) := by omega
        have hin0 : (0 : Int) ≤ (p : Int) + ((k : Int) + 1) := by omega
        have HCB : Hid (contB s (p + k + 1) = decide (128 ≤ bt s (p + k + 1) ∧ bt s (p + k + 1) < 192)) := rfl
        obtain ⟨d, hd⟩ : ∃ d, bt s (p + k + 1) = d := ⟨_, rfl⟩
        rw [hd] at HVN HCB
        have hgd : (s[p + k + 1].toNat : Int) = d := by rw [← hb2, hd]
        have hd2 := bt_hi s (p + k + 1)
        rw [hd] at hd2
        have htn : ((p : Int) + ((k : Int) + 1)).toNat = p + k + 1 := by omega
        have hge : 0 ≤ d := by omega
        clear hb2 hd
        by_cases hlo : d < 128
        · have HZ := Lib.hid (HZN.out (by rw [HCB.out]; exact decide_eq_false (by omega)))
          go_wp2_with fail
          go_ret
          exact ⟨kret_int HZ.out.symm, rfl⟩
        · by_cases hhi : 192 ≤ d
          · have HZ := Lib.hid (HZN.out (by rw [HCB.out]; exact decide_eq_false (by omega)))
            go_wp2_with fail
            go_ret
            exact ⟨kret_int HZ.out.symm, rfl⟩
          · have HNX : Hid (∀ j, j < k + 1 → contB s (p + j + 1) = true) := fun j hj => by
              by_cases e : j = k
              · subst e; rw [HCB.out]; exact decide_eq_true (by omega)
              · exact HA.out j (by omega)
            go_wp2_with fail
            go_roundw
            case rel => exact ⟨k + 1, by omega, by rw [HVN.out], by go_num, HNX.out, by first | trivial | rfl⟩
            case measure => simp [intOf]; omega
      · have hinI : ¬ ((p : Int) + ((k : Int) + 1) < (s.size : Int)) := by omega
        have HZ := Lib.hid (HZN.out (by unfold contB; rw [bt_out hin]; rfl))
        go_wp2_with fail
        go_ret
        exact ⟨kret_int HZ.out.symm, rfl⟩
    · obtain rfl : k = 4 - 1 := by omega
      have HCK := Lib.hid (cK_all HA.out)
      have HOKV : Hid (okV 65536 (vK s p (c - 240) (4 - 1)) = decide (65536 ≤ vK s p (c - 240) (4 - 1) ∧ vK s p (c - 240) (4 - 1) ≤ 1114111 ∧ (vK s p (c - 240) (4 - 1) < 55296 ∨ 57344 ≤ vK s p (c - 240) (4 - 1)))) := rfl
      have HOK2 := Lib.hid (HOK.out HCK.out)
      rw [HOKV.out] at HVA HOK2
      clear HCO HCK HOK HOKV HA
      generalize vK s p (c - 240) (4 - 1) = vn at *
      have hltI : ¬ (((4 - 1 : Nat) : Int) + 1 < 4) := by omega
      by_cases t1 : vn < 65536
      · have HZ := Lib.hid (HVA.out (decide_eq_false (by omega)))
        go_wp2_with fail
        go_ret
        exact ⟨kret_int HZ.out.symm, rfl⟩
      · by_cases t2 : 1114111 < vn
        · have HZ := Lib.hid (HVA.out (decide_eq_false (by omega)))
          go_wp2_with fail
          go_ret
          exact ⟨kret_int HZ.out.symm, rfl⟩
        · by_cases t3 : 55296 ≤ vn
          · by_cases t4 : vn < 57344
            · have HZ := Lib.hid (HVA.out (decide_eq_false (by omega)))
              go_wp2_with fail
              go_ret
              exact ⟨kret_int HZ.out.symm, rfl⟩
            · have HZ := Lib.hid (HOK2.out (decide_eq_true (by omega)))
              go_wp2_with fail
              go_ret
              exact ⟨kret_int HZ.out.symm, rfl⟩
          · have HZ := Lib.hid (HOK2.out (decide_eq_true (by omega)))
            go_wp2_with fail
            go_ret
            exact ⟨kret_int HZ.out.symm, rfl⟩
set_option maxHeartbeats 1000000 in
theorem let1_ref (s : ByteArray) (p : Nat) (w : World) (hp : p < s.size) (hc0 : bt s p < 128) :
    Calls Tryd.prog 56 #[.string s, .int .i64 (p : Int)] w fun e w' => e = .returned (.int .i64 1) ∧ w' = w := by
  have hb := bt_in hp
  have hb2 := bt_hi s p
  obtain ⟨c, hc⟩ : ∃ c, bt s p = c := ⟨_, rfl⟩
  rw [hc] at hc0 hb2
  have hgc : (s[p].toNat : Int) = c := by rw [← hb, hc]
  have hpI : (p : Int) < (s.size : Int) := by omega
  have hp0 : (0 : Int) ≤ (p : Int) := by omega
  clear hb hc
  go_enter Tryd.func56, Tryd.ntmps56
  go_wp2_with fail
  go_ret
  exact ⟨rfl, rfl⟩
set_option maxHeartbeats 1000000 in
theorem letn_ref (s : ByteArray) (p : Nat) (w : World) (hp : p < s.size) (hc0 : 128 ≤ bt s p ∧ bt s p < 192) :
    Calls Tryd.prog 56 #[.string s, .int .i64 (p : Int)] w fun e w' => e = .returned (.int .i64 0) ∧ w' = w := by
  have hb := bt_in hp
  have hb2 := bt_hi s p
  obtain ⟨c, hc⟩ : ∃ c, bt s p = c := ⟨_, rfl⟩
  rw [hc] at hc0 hb2
  have hgc : (s[p].toNat : Int) = c := by rw [← hb, hc]
  have hpI : (p : Int) < (s.size : Int) := by omega
  have hp0 : (0 : Int) ≤ (p : Int) := by omega
  clear hb hc
  obtain ⟨c0, c1⟩ := hc0
  have c2 : ¬ c < 128 := by omega
  have c3 : ¬ 192 ≤ c := by omega
  have c4 : ¬ 224 ≤ c := by omega
  have c5 : ¬ 240 ≤ c := by omega
  go_enter Tryd.func56, Tryd.ntmps56
  go_wp2_with fail
  go_ret
  exact ⟨rfl, rfl⟩
set_option maxHeartbeats 1000000 in
theorem letm_ref (s : ByteArray) (p : Nat) (w : World) (hp : p < s.size) (hc0 : 248 ≤ bt s p) :
    Calls Tryd.prog 56 #[.string s, .int .i64 (p : Int)] w fun e w' => e = .returned (.int .i64 0) ∧ w' = w := by
  have hb := bt_in hp
  have hb2 := bt_hi s p
  obtain ⟨c, hc⟩ : ∃ c, bt s p = c := ⟨_, rfl⟩
  rw [hc] at hc0 hb2
  have hgc : (s[p].toNat : Int) = c := by rw [← hb, hc]
  have hpI : (p : Int) < (s.size : Int) := by omega
  have hp0 : (0 : Int) ≤ (p : Int) := by omega
  clear hb hc
  have c2 : ¬ c < 128 := by omega
  have c3 : 192 ≤ c := by omega
  have c4 : ¬ c < 224 := by omega
  have c6 : 224 ≤ c := by omega
  have c7 : ¬ c < 240 := by omega
  have c8 : 240 ≤ c := by omega
  have c9 : ¬ c < 248 := by omega
  go_enter Tryd.func56, Tryd.ntmps56
  go_wp2_with fail
  go_ret
  exact ⟨rfl, rfl⟩
theorem letG2 {s : ByteArray} {p : Nat} (h0 : 192 ≤ bt s p) (h1 : bt s p < 224) : letG s p 2 128 192 = (letN s p : Int) := by
  have hL : letN s p = if contB s (p + 1) = true ∧ okV 128 (v2 s p) = true then 2 else 0 := by
    unfold letN
    rw [if_neg (show ¬ bt s p < 128 by omega), if_pos ⟨h0, h1⟩]
  have hG : letG s p 2 128 192 = if (true && contB s (p + 1)) = true ∧ okV 128 (v2 s p) = true then (2 : Int) else 0 := rfl
  rw [hL, hG]
  cases contB s (p + 1) <;> cases okV 128 (v2 s p) <;> rfl
theorem letG3 {s : ByteArray} {p : Nat} (h0 : 224 ≤ bt s p) (h1 : bt s p < 240) : letG s p 3 2048 224 = (letN s p : Int) := by
  have hL : letN s p = if contB s (p + 1) = true ∧ contB s (p + 2) = true ∧ okV 2048 (v3 s p) = true then 3 else 0 := by
    unfold letN
    rw [if_neg (show ¬ bt s p < 128 by omega), if_neg (show ¬ (192 ≤ bt s p ∧ bt s p < 224) by omega), if_pos ⟨h0, h1⟩]
  have hG : letG s p 3 2048 224 = if (true && contB s (p + 1) && contB s (p + 2)) = true ∧ okV 2048 (v3 s p) = true then (3 : Int) else 0 := rfl
  rw [hL, hG]
  cases contB s (p + 1) <;> cases contB s (p + 2) <;> cases okV 2048 (v3 s p) <;> rfl
theorem letG4 {s : ByteArray} {p : Nat} (h0 : 240 ≤ bt s p) (h1 : bt s p < 248) : letG s p 4 65536 240 = (letN s p : Int) := by
  have hL : letN s p = if contB s (p + 1) = true ∧ contB s (p + 2) = true ∧ contB s (p + 3) = true ∧ okV 65536 (v4 s p) = true then 4 else 0 := by
    unfold letN
    rw [if_neg (show ¬ bt s p < 128 by omega), if_neg (show ¬ (192 ≤ bt s p ∧ bt s p < 224) by omega), if_neg (show ¬ (224 ≤ bt s p ∧ bt s p < 240) by omega), if_pos ⟨h0, h1⟩]
  have hG : letG s p 4 65536 240 = if (true && contB s (p + 1) && contB s (p + 2) && contB s (p + 3)) = true ∧ okV 65536 (v4 s p) = true then (4 : Int) else 0 := rfl
  rw [hL, hG]
  cases contB s (p + 1) <;> cases contB s (p + 2) <;> cases contB s (p + 3) <;> cases okV 65536 (v4 s p) <;> rfl
theorem letterAt_ref (s : ByteArray) (p : Nat) (w : World) (hs : s.size ≤ 200) (hp : p < s.size) :
    Calls Tryd.prog 56 #[.string s, .int .i64 (p : Int)] w fun e w' => e = .returned (.int .i64 (letN s p : Int)) ∧ w' = w := by
  by_cases h1 : bt s p < 128
  · have e : letN s p = 1 := by unfold letN; rw [if_pos h1]
    rw [e]
    exact let1_ref s p w hp h1
  · by_cases h2 : bt s p < 192
    · have e : letN s p = 0 := by unfold letN; rw [if_neg h1, if_neg (by omega), if_neg (by omega), if_neg (by omega)]
      rw [e]
      exact letn_ref s p w hp ⟨by omega, h2⟩
    · by_cases h3 : bt s p < 224
      · rw [← letG2 (by omega) h3]
        exact let2_ref s p w hs hp (by omega) h3
      · by_cases h4 : bt s p < 240
        · rw [← letG3 (by omega) h4]
          exact let3_ref s p w hs hp (by omega) h4
        · by_cases h5 : bt s p < 248
          · rw [← letG4 (by omega) h5]
            exact let4_ref s p w hs hp (by omega) h5
          · have e : letN s p = 0 := by unfold letN; rw [if_neg h1, if_neg (by omega), if_neg (by omega), if_neg (by omega)]
            rw [e]
            exact letm_ref s p w hp (by omega)
def txtOf (l : List UInt8) : ByteArray := ⟨l.toArray⟩
theorem txtOf_list (l : List UInt8) : (txtOf l).data.toList = l := by simp [txtOf]
theorem txtOf_eq {t : ByteArray} {l : List UInt8} (h : t.data.toList = l) : t = txtOf l := ba_ext (by rw [txtOf_list, h])
set_option maxRecDepth 100000 in
set_option maxHeartbeats 2000000 in
theorem shown_ref (s : ByteArray) (w : World) (hs : s.size ≤ 200) : Calls Tryd.prog 31 #[.string s] w fun e w' => e = .returned (.tuple #[.string (shownT s), .int .i64 (lets s : Int)]) ∧ w' = w := by
  have HSL := Lib.hid (shown_len s)
  go_enter Tryd.func31, Tryd.ntmps31
  go_wp2_with fail
  go_loopw [4, 5, 6] (fun t c i wr => ∃ (p : Nat) (acc : List UInt8) (m : Nat), t = .string (txtOf acc) ∧ c = .int .i64 (m : Int) ∧ i = .int .i64 (p : Int) ∧ p ≤ s.size ∧ acc ++ restS s p = shownL s ∧ m + restC s p = lets s ∧ wr = w) (fun _ _ i _ => s.size - (intOf i).toNat)
  case atStart => exact ⟨0, [], 0, rfl, rfl, rfl, Nat.zero_le _, rfl, by rw [Nat.zero_add]; rfl, rfl⟩
  case round =>
    obtain ⟨p, acc, m, rfl, rfl, rfl, hps, hacc, hm, hwr⟩ := hrel
    subst hwr
    have HACC := Lib.hid hacc
    have HM := Lib.hid hm
    have hal : acc.length ≤ 200 := by
      have := congrArg List.length hacc
      rw [HSL.out.1, List.length_append] at this
      omega
    have hml : m ≤ 200 := by have := HSL.out.2; omega
    clear hacc hm
    by_cases hp : p < s.size
    · have hpI : (p : Int) < (s.size : Int) := by omega
      obtain ⟨hrs, hrc⟩ := rest_step hp
      have HRS := Lib.hid hrs
      have HRC := Lib.hid hrc
      have hst := step_le hp
      have hst1 := stepN_pos s p
      have HLR := Lib.hid (fun w => letterAt_ref s p w hs hp)
      have HTL : Hid ((txtOf acc).data.toList = acc) := txtOf_list acc
      have htz : (txtOf acc).size = acc.length := by rw [size_toList, HTL.out]
      have HTZ := Lib.hid htz
      clear hrs hrc htz
      by_cases hl : letN s p = 0
      · have HST : Hid (stepN s p = 1) := by unfold Hid stepN; rw [if_pos hl]
        have HPC : Hid (piece s p = [63]) := by unfold Hid piece; rw [if_pos hl]
        rw [hl] at HLR
        have hj : (txtOf acc).size + (⟨#[63]⟩ : ByteArray).size ≤ 9223372036854775807 := by rw [HTZ.out]; show acc.length + 1 ≤ _; omega
        have HNT : Hid (txtOf acc ++ (⟨#[63]⟩ : ByteArray) = txtOf (acc ++ [63])) := by
          refine txtOf_eq ?_
          rw [ba_append, HTL.out]
        rw [HST.out] at hst hst1
        clear hl
        generalize txtOf acc = ta at *
        go_wp2_with fail
        refine (HLR.out _).mono ?_
        rintro e w1 ⟨rfl, h'⟩
        subst w1
        go_wp2_with fail
        go_roundw
        case rel =>
          refine ⟨p + 1, acc ++ [63], m + 1, congrArg Value.string HNT.out, by go_num, by go_num, hst, ?_, ?_, by first | trivial | rfl⟩
          · rw [← HACC.out, HRS.out, HPC.out, HST.out, List.append_assoc]
          · rw [← HM.out, HRC.out, HST.out]; omega
        case measure => simp [intOf]; omega
      · have HST : Hid (stepN s p = letN s p) := by unfold Hid stepN; rw [if_neg hl]
        have HPC : Hid (piece s p = bytesAt s p (letN s p)) := by unfold Hid piece; rw [if_neg hl]
        rw [HST.out] at hst hst1
        have HBL := Lib.hid (bytesAt_len hst)
        have HBA : Hid ((s.extract p (p + letN s p)).data.toList = bytesAt s p (letN s p)) := rfl
        have hez : (s.extract p (p + letN s p)).size = letN s p := by rw [size_toList, HBA.out, HBL.out]
        have hj : (txtOf acc).size + (s.extract p (p + letN s p)).size ≤ 9223372036854775807 := by rw [HTZ.out, hez]; omega
        have HNT : Hid (txtOf acc ++ s.extract p (p + letN s p) = txtOf (acc ++ bytesAt s p (letN s p))) := by
          refine txtOf_eq ?_
          rw [ba_append, HTL.out, HBA.out]
        have hlB : ((letN s p : Int) == 0) = false := by rw [beq_eq_false_iff_ne]; omega
        have hlI : (0 : Int) ≤ (letN s p : Int) := by omega
        have hsI : (p : Int) + (letN s p : Int) ≤ (s.size : Int) := by omega
        have hpl : (p : Int) ≤ (p : Int) + (letN s p : Int) := by omega
        have HGO : Hid ((acc ++ bytesAt s p (letN s p)) ++ restS s (p + letN s p) = shownL s) := by unfold Hid; rw [← HACC.out, HRS.out, HPC.out, HST.out, List.append_assoc]
        have HGC : Hid (m + 1 + restC s (p + letN s p) = lets s) := by unfold Hid; rw [← HM.out, HRC.out, HST.out]; omega
        clear hl hez HPC HRS HRC HST HBA HBL
        generalize txtOf acc = ta at *
        generalize letN s p = q at *
        go_wp2_with fail
        refine (HLR.out _).mono ?_
        rintro e w1 ⟨rfl, h'⟩
        subst w1
        go_wp2_with fail
        go_roundw
        case rel => exact ⟨p + q, acc ++ bytesAt s p q, m + 1, congrArg Value.string HNT.out, by go_num, by go_num, hst, HGO.out, HGC.out, by first | trivial | rfl⟩
        case measure => simp [intOf]; omega
    · have hpI : ¬ ((p : Int) < (s.size : Int)) := by omega
      have HFA : Hid (acc = shownL s) := by
        have := HACC.out
        rw [(rest_end hp).1, List.append_nil] at this
        exact this
      have HFM : Hid (m = lets s) := by
        have := HM.out
        rw [(rest_end hp).2] at this
        exact this
      go_wp2_with fail
      go_ret2
      exact ⟨ret_se (by rw [HFA.out]; rfl) (by rw [HFM.out]), rfl⟩
end Go.Proofs.YtmchanddfodhaaaDoor
