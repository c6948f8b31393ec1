/-
  Promise M2: the walks of checkAll, Add and Less.
-/
import Derived.Test.YtfamnlaignjhkaaOOwn
import Derived.Test.YtfamnlaignjhkaaOSum
namespace Go.Proofs.Ytfamnlaignjhkaa
open Go.RowKit Go.Sort

/-- What is wrong with the first list with which something is. -/
def allE : List (List Tt) → Int
  | [] => 0
  | l :: r => if totE l = 0 then allE r else totE l
theorem allE_at : ∀ {Ls : List (List Tt)} {k : Nat}, (∀ j, j < k → totE (Ls.getD j []) = 0) → k < Ls.length → totE (Ls.getD k []) ≠ 0 → allE Ls = totE (Ls.getD k [])
  | [], k, _, hk, _ => by simp at hk
  | l :: r, 0, _, _, hw => by
    have : (l :: r).getD 0 [] = l := rfl
    rw [this] at hw ⊢
    rw [allE, if_neg hw]
  | l :: r, k + 1, h, hk, hw => by
    have h0 : totE l = 0 := h 0 (by omega)
    rw [allE, if_pos h0]
    exact allE_at (Ls := r) (k := k) (fun j hj => h (j + 1) (by omega)) (by simpa using hk) hw
theorem allE_ok : ∀ {Ls : List (List Tt)}, (∀ j, j < Ls.length → totE (Ls.getD j []) = 0) → allE Ls = 0
  | [], _ => rfl
  | l :: r, h => by
    have h0 : totE l = 0 := h 0 (by simp)
    rw [allE, if_pos h0]
    exact allE_ok (Ls := r) fun j hj => h (j + 1) (by simpa using hj)
set_option maxRecDepth 100000 in
set_option maxHeartbeats 2000000 in
theorem checkAll_any (b : Nat) (Ls : List (List Tt)) (m : Nat) (w : World) (h : LsAt w b Ls) (hm : Ls.length = m) (hm2 : m ≤ 2) (hle : ∀ j, j < m → (Ls.getD j []).length ≤ maxLen) :
    Calls Try.prog 33 #[.slice (some ⟨b, 0, none⟩) m m] w fun e w' => e = .returned (.int .i64 (allE Ls)) ∧ Go.RowKit.Below w.heap.size w w' := by
  have HLS := Lib.hid h
  have HM := Lib.hid hm
  have HLE := Lib.hid hle
  clear h hm hle
  go_enter Try.func33, Try.ntmps33
  go_wp2_with fail
  go_loopw [8] (fun i wr => ∃ k : Nat, k ≤ m ∧ i = .int .i64 k ∧ (∀ j, j < k → totE (Ls.getD j []) = 0) ∧ Go.RowKit.Below w.heap.size w wr) (fun i _ => m - (intOf i).toNat)
  case atStart => exact ⟨0, Nat.zero_le _, rfl, fun j hj => by omega, Below.refl _ _⟩
  case round =>
    obtain ⟨k, hk, rfl, hall, hb⟩ := hrel
    have HA := Lib.hid hall
    have HB := Lib.hid hb
    clear hall hb
    by_cases hlt : k < m
    · have hlt' : (k : Int) < (m : Int) := by omega
      obtain ⟨a, c, hc1, hc2⟩ := (HLS.out.below HB.out).2 k (by rw [HM.out]; exact hlt)
      have HAT := Lib.hid (allE_at (Ls := Ls) (k := k) HA.out (by rw [HM.out]; exact hlt))
      have HLK := Lib.hid (HLE.out k hlt)
      have HC := Lib.hid hc2
      obtain ⟨L, hL⟩ : ∃ L, Ls.getD k [] = L := ⟨_, rfl⟩
      rw [hL] at hc1 HC HAT HLK
      have HLL := Lib.hid hL
      obtain ⟨n, hn⟩ : ∃ n, L.length = n := ⟨_, rfl⟩
      rw [hn] at hc1 HLK
      have HN := Lib.hid hn
      clear hL hn hc2
      go_wp2_with fail
      refine (Check_any a n c L _ HC.out HN.out HLK.out).mono ?_
      rintro e w1 ⟨rfl, hb1⟩
      have HB1 := Lib.hid (HB.out.trans (hb1.mono HB.out.size))
      clear hb1
      by_cases h0 : totE L = 0
      · have H0 := Lib.hid h0
        rw [h0]
        clear h0
        go_wp2_with fail
        go_roundw
        case rel =>
          refine ⟨k + 1, by omega, by go_num, fun j hj => ?_, HB1.out⟩
          by_cases e : j = k
          · subst e; rw [HLL.out]; exact H0.out
          · exact HA.out j (by omega)
        case measure => simp [intOf]; omega
      · have HR := Lib.hid (HAT.out h0)
        have h0' : (totE L != 0) = true := by simp [h0]
        obtain ⟨er, her⟩ : ∃ c, totE L = c := ⟨_, rfl⟩
        rw [her] at HR h0' ⊢
        clear h0 her
        go_wp2_with fail
        go_ret
        exact ⟨oret_int HR.out.symm, HB1.out⟩
    · have hkm : k = m := by omega
      subst hkm
      have HR := Lib.hid (allE_ok (Ls := Ls) (fun j hj => HA.out j (by rw [HM.out] at hj; exact hj)))
      go_wp2_with fail
      go_ret
      exact ⟨oret_int HR.out.symm, HB.out⟩
theorem lsAt_two {w : World} {a b : Option Addr} {n m cap cap' : Nat} {l l' : List Tt} (h : CameO w a l) (h' : CameO w b l') (hn : l.length = n) (hm : l'.length = m) : LsAt (w.alloc (.cells #[.slice a n cap, .slice b m cap'] 22)) w.heap.size [l, l'] := by
  refine ⟨by simp, fun j hj => ?_⟩
  have hj' : j = 0 ∨ j = 1 := by simp at hj; omega
  rcases hj' with rfl | rfl
  · exact ⟨a, cap, by simp [hn], h.below (obelow_box w _)⟩
  · exact ⟨b, cap', by simp [hm], h'.below (obelow_box w _)⟩
/-- What is wrong with two lists. -/
def twoE (l m : List Tt) : Int := if totE l = 0 then totE m else totE l
theorem twoE_eq (l m : List Tt) : allE [l, m] = twoE l m := by
  unfold twoE allE allE allE
  split
  · split
    · rename_i h; exact h.symm
    · rfl
  · rfl
/-- What Add and Less answer. -/
def AddRet (l m M : List Tt) (w' : World) (v : Value) (er : Int) : Prop := (twoE l m ≠ 0 ∧ er = twoE l m ∧ v = .slice none 0 0) ∨ (twoE l m = 0 ∧ ListRet (sumsOf (l ++ M)) w' v er)
theorem twoE_ok {l m : List Tt} (h : twoE l m = 0) : totE l = 0 ∧ totE m = 0 := by
  unfold twoE at h
  split at h
  · rename_i h0; exact ⟨h0, h⟩
  · rename_i h0; exact absurd h h0
set_option maxRecDepth 100000 in
set_option maxHeartbeats 2000000 in
theorem Add_any (a : Option Addr) (n cap : Nat) (l : List Tt) (b : Option Addr) (n' cap' : Nat) (l' : List Tt) (w : World) (hc : CameO w a l) (hn : l.length = n) (hm : n ≤ maxLen) (hc' : CameO w b l') (hn' : l'.length = n') (hm' : n' ≤ maxLen) :
    Calls Try.prog 13 #[.slice a n cap, .slice b n' cap'] w fun e w' => ∃ (v : Value) (er : Int), e = .returned (.tuple #[v, .int .i64 er]) ∧ AddRet l l' l' w' v er ∧ Go.RowKit.Below w.heap.size w w' := by
  have HC := Lib.hid hc
  have HC' := Lib.hid hc'
  have HN := Lib.hid hn
  have HN' := Lib.hid hn'
  have HLE : Hid (∀ j, j < 2 → (([l, l'] : List (List Tt)).getD j []).length ≤ maxLen) := fun j hj => by
    have hj' : j = 0 ∨ j = 1 := by omega
    rcases hj' with rfl | rfl
    · show l.length ≤ maxLen; omega
    · show l'.length ≤ maxLen; omega
  clear hm hm' hc hc' hn hn'
  have HLS := Lib.hid (lsAt_two (cap := cap) (cap' := cap') HC.out HC'.out HN.out HN'.out)
  have HB0 := Lib.hid (obelow_box w (.cells #[.slice a n cap, .slice b n' cap'] 22))
  go_enter Try.func13, Try.ntmps13
  go_wp2_with fail
  refine (checkAll_any w.heap.size [l, l'] 2 _ HLS.out rfl (by omega) HLE.out).mono ?_
  rintro e w1 ⟨rfl, hb⟩
  rw [twoE_eq]
  have HB1 := Lib.hid (HB0.out.trans (hb.mono HB0.out.size))
  clear hb HLS
  by_cases h0 : twoE l l' = 0
  · have H0 := Lib.hid h0
    rw [h0]
    clear h0
    have HLS := Lib.hid (lsAt_two (cap := cap) (cap' := cap') (HC.out.below HB1.out) (HC'.out.below HB1.out) HN.out HN'.out)
    have HB2 := Lib.hid (HB1.out.alloc HB1.out.size (.cells #[.slice a n cap, .slice b n' cap'] 22))
    go_wp2_with fail
    refine (together_any w1.heap.size [l, l'] 2 _ HLS.out rfl (by omega) (fun t ht => ?_) ?_).mono ?_
    · simp only [List.flatten_cons, List.flatten_nil, List.append_nil, List.mem_append] at ht
      rcases ht with h | h
      · exact (totE_ok (twoE_ok H0.out).1).1 t h
      · exact (totE_ok (twoE_ok H0.out).2).1 t h
    · simp only [List.flatten_cons, List.flatten_nil, List.append_nil, List.length_append]
      have h1 := (totE_ok (twoE_ok H0.out).1).2.1
      have h2 := (totE_ok (twoE_ok H0.out).2).2.1
      omega
    rintro e w2 ⟨v, er, rfl, hret, hb⟩
    rw [show ([l, l'] : List (List Tt)).flatten = l ++ l' by simp] at hret
    have HR := Lib.hid hret
    have HB3 := Lib.hid (HB2.out.trans (hb.mono HB2.out.size))
    clear hret hb
    go_wp2_with fail
    go_ret2
    exact ⟨_, _, rfl, .inr ⟨H0.out, HR.out⟩, HB3.out⟩
  · have H0 := Lib.hid h0
    have h0' : (twoE l l' != 0) = true := by simp [h0]
    obtain ⟨er, her⟩ : ∃ c, twoE l l' = c := ⟨_, rfl⟩
    have HER := Lib.hid her
    rw [her] at h0' ⊢
    clear h0 her
    go_wp2_with fail
    go_ret2
    exact ⟨_, _, rfl, .inl ⟨H0.out, HER.out.symm, rfl⟩, HB1.out⟩
theorem negT_ok {t : Tt} (h : OkT t) : OkT (negT t) := by
  obtain ⟨h1, h2, h3, h4, h5, h6, h7⟩ := h
  exact ⟨h1, h2, h3, h4, by show _ ≤ -t.mon; omega, by show -t.mon ≤ _; omega, h7⟩
theorem negL_ok {l : List Tt} (h : ∀ t ∈ l, OkT t) : ∀ t ∈ negL l, OkT t := by
  intro t ht
  obtain ⟨t', ht', rfl⟩ := List.mem_map.1 ht
  exact negT_ok (h t' ht')
set_option maxRecDepth 100000 in
set_option maxHeartbeats 2000000 in
theorem Less_any (a : Option Addr) (n cap : Nat) (l : List Tt) (b : Option Addr) (n' cap' : Nat) (l' : List Tt) (w : World) (hc : CameO w a l) (hn : l.length = n) (hm : n ≤ maxLen) (hc' : CameO w b l') (hn' : l'.length = n') (hm' : n' ≤ maxLen) :
    Calls Try.prog 14 #[.slice a n cap, .slice b n' cap'] w fun e w' => ∃ (v : Value) (er : Int), e = .returned (.tuple #[v, .int .i64 er]) ∧ AddRet l l' (negL l') w' v er ∧ Go.RowKit.Below w.heap.size w w' := by
  have HC := Lib.hid hc
  have HC' := Lib.hid hc'
  have HN := Lib.hid hn
  have HN' := Lib.hid hn'
  have HLE : Hid (∀ j, j < 2 → (([l, l'] : List (List Tt)).getD j []).length ≤ maxLen) := fun j hj => by
    have hj' : j = 0 ∨ j = 1 := by omega
    rcases hj' with rfl | rfl
    · show l.length ≤ maxLen; omega
    · show l'.length ≤ maxLen; omega
  clear hm hm' hc hc' hn hn'
  have HLS := Lib.hid (lsAt_two (cap := cap) (cap' := cap') HC.out HC'.out HN.out HN'.out)
  have HB0 := Lib.hid (obelow_box w (.cells #[.slice a n cap, .slice b n' cap'] 22))
  go_enter Try.func14, Try.ntmps14
  go_wp2_with fail
  refine (checkAll_any w.heap.size [l, l'] 2 _ HLS.out rfl (by omega) HLE.out).mono ?_
  rintro e w1 ⟨rfl, hb⟩
  rw [twoE_eq]
  have HB1 := Lib.hid (HB0.out.trans (hb.mono HB0.out.size))
  clear hb HLS
  by_cases h0 : twoE l l' = 0
  · have H0 := Lib.hid h0
    rw [h0]
    clear h0
    go_wp2_with fail
    refine (opposites_any b n' cap' l' _ (HC'.out.below HB1.out) HN'.out (by have := (totE_ok (twoE_ok H0.out).2).2.1; have := HN'.out; omega) (totE_ok (twoE_ok H0.out).2).1).mono ?_
    rintro e w2 ⟨x, c, rfl, hcx, hb⟩
    have HB2 := Lib.hid (HB1.out.trans (hb.mono HB1.out.size))
    have HLS := Lib.hid (lsAt_two (m := n') (cap := cap) (cap' := c) (HC.out.below HB2.out) hcx HN.out (by rw [negL_len]; exact HN'.out))
    have HB3 := Lib.hid (HB2.out.alloc HB2.out.size (.cells #[.slice a n cap, .slice x n' c] 22))
    clear hb hcx
    go_wp2_with fail
    refine (together_any w2.heap.size [l, negL l'] 2 _ HLS.out rfl (by omega) (fun t ht => ?_) ?_).mono ?_
    · simp only [List.flatten_cons, List.flatten_nil, List.append_nil, List.mem_append] at ht
      rcases ht with h | h
      · exact (totE_ok (twoE_ok H0.out).1).1 t h
      · exact negL_ok (totE_ok (twoE_ok H0.out).2).1 t h
    · simp only [List.flatten_cons, List.flatten_nil, List.append_nil, List.length_append, negL_len]
      have h1 := (totE_ok (twoE_ok H0.out).1).2.1
      have h2 := (totE_ok (twoE_ok H0.out).2).2.1
      omega
    rintro e w3 ⟨v, er, rfl, hret, hb⟩
    rw [show ([l, negL l'] : List (List Tt)).flatten = l ++ negL l' by simp] at hret
    have HR := Lib.hid hret
    have HB4 := Lib.hid (HB3.out.trans (hb.mono HB3.out.size))
    clear hret hb
    go_wp2_with fail
    go_ret2
    exact ⟨_, _, rfl, .inr ⟨H0.out, HR.out⟩, HB4.out⟩
  · have H0 := Lib.hid h0
    have h0' : (twoE l l' != 0) = true := by simp [h0]
    obtain ⟨er, her⟩ : ∃ c, twoE l l' = c := ⟨_, rfl⟩
    have HER := Lib.hid her
    rw [her] at h0' ⊢
    clear h0 her
    go_wp2_with fail
    go_ret2
    exact ⟨_, _, rfl, .inl ⟨H0.out, HER.out.symm, rfl⟩, HB1.out⟩
end Go.Proofs.Ytfamnlaignjhkaa
