/-
  The walk of the law LedgerMoved: it answers true at every input.
-/
import Derived.Test.YtdgcfakbmhchdaaQOn
import Derived.Test.YtdgcfakbmhchdaaQBegun
namespace Go.Proofs.Ytdgcfakbmhchdaa
open Go.RowKit

theorem movE_z {l : List En} {s : ByteArray} {f t : Int} (x : Int) (h : askE l s f t ≠ 0) : movE l s f t x = 0 := if_neg h
theorem movE_ok {l : List En} {s : ByteArray} {f t : Int} (x : Int) (h : askE l s f t = 0) : movE l s f t x = x := if_pos h
set_option maxRecDepth 100000 in
set_option maxHeartbeats 4000000 in
theorem walk_ledgerMoved (a : Option Addr) (n cap : Nat) (l : List En) {w : World} (hc : CameE w a l) (hn : l.length = n) (_ : n ≤ maxLen) (_ : ∀ j, j < n → (Lit.int .i64 (enth l j).day).wf = true) (s : ByteArray) (hs : s.size ≤ maxLen) (f : Int) (_ : (Lit.int .i64 f).wf = true) (t : Int) (_ : (Lit.int .i64 t).wf = true) :
    Calls Try.prog 6 #[.slice a n cap, .string s, .int .i64 f, .int .i64 t] w fun e w' => e = .returned (.bool true) ∧ Go.RowKit.Below w.heap.size w w' := by
  have HC := Lib.hid hc
  have HN := Lib.hid hn
  have hsz : s.size ≤ 9223372036854775807 := by unfold maxLen at hs; omega
  clear hc hn
  go_enter Try.func6, Try.ntmps6
  go_wp2_with fail
  refine (Moved_any a n cap l s f t _ HC.out HN.out).mono ?_
  rintro e w1 ⟨rfl, hb⟩
  have HB1 := Lib.hid hb
  clear hb
  go_wp2_with fail
  refine (Balance_any a n cap l s t _ (HC.out.below HB1.out) HN.out).mono ?_
  rintro e w2 ⟨rfl, hb⟩
  have HB2 := Lib.hid (HB1.out.trans (hb.mono HB1.out.size))
  clear hb HB1
  have HBX2 := Lib.hid (kbelow_box w2 (.cells #[.int .i64 f, .int .i64 t] 3))
  have HB3 := Lib.hid (HB2.out.trans (HBX2.out.mono HB2.out.size))
  have d0 : (w2.alloc (.cells #[.int .i64 f, .int .i64 t] 3)).cell? ⟨w2.heap.size, 0, none⟩ = some (.int .i64 f) := by simp
  have d1 : (w2.alloc (.cells #[.int .i64 f, .int .i64 t] 3)).cell? ⟨w2.heap.size, 1, none⟩ = some (.int .i64 t) := by simp
  go_wp2_with (first
    | (have := HB4; go_at_call 22; refine (onLedger_1 a n cap l s t w4.heap.size 1 _ (HC.out.below HB5.out) HN.out hsz (by simp)).mono ?_; rintro e w6 ⟨rfl, hb6⟩; have HB6 := Lib.hid (HB5.out.trans (hb6.mono HB5.out.size)); clear hb6; refine Hid.out ?_)
    | (go_at_call 22; refine (onLedger_2 a n cap l s f t w2.heap.size 2 _ (HC.out.below HB3.out) HN.out hsz d0 d1).mono ?_; rintro e w4 ⟨rfl, hb4⟩; have HB4 := Lib.hid (HB3.out.trans (hb4.mono HB3.out.size)); clear hb4; have HB5 := Lib.hid (HB4.out.alloc HB4.out.size (.cells #[.int .i64 t] 3))))
  clear d0 d1 HBX2 HB3 HB4 HB5 HB2
  have HMF : Hid (jrE l = 0 → ∀ w0, Go.RowKit.Below w.heap.size w w0 → Calls Try.prog 23 #[.slice a n cap, .string s, .int .i64 f, .int .i64 t] w0 fun e w' => e = .returned (.tuple #[.int .i64 (inN s (pst l f t)), .int .i64 (outN s (pst l f t))]) ∧ Go.RowKit.Below w0.heap.size w0 w') := fun hj w0 hb => movedOf_ref a n cap l s f t w0 (HC.out.below hb) HN.out hj
  have HM0 : Hid (jrE l = 0 → ∀ w0, Go.RowKit.Below w.heap.size w w0 → Calls Try.prog 23 #[.slice a n cap, .string s, .int .i64 0, .int .i64 t] w0 fun e w' => e = .returned (.tuple #[.int .i64 (inN s (pst l 0 t)), .int .i64 (outN s (pst l 0 t))]) ∧ Go.RowKit.Below w0.heap.size w0 w') := fun hj w0 hb => movedOf_ref a n cap l s 0 t w0 (HC.out.below hb) HN.out hj
  have HSUM : Hid (inN s (pst l 0 t) - outN s (pst l 0 t) = sumN s (pst l 0 t)) := io_sum s _
  have HIB : Hid (jrE l = 0 → -9000000000000000 ≤ sumN s (pst l 0 t) ∧ sumN s (pst l 0 t) ≤ 9000000000000000) := fun hj => by
    have h1 := pst_bound hj 0 t
    have h2 := sumN_bd (s := s) (l := pst l 0 t) (fun r hr => by
      obtain ⟨e, he, hx⟩ := pst_mem hr
      have h2 := List.all_eq_true.1 (enE_ok ((jrE_ok hj).2.1 e he)).2.2.2.2.1 _ hx
      unfold asB someB at h2
      simp at h2
      exact h2.2)
    omega
  have HBV : Hid (balV l s t = if askE l s 0 t = 0 then sumN s (pst l 0 t) else 0) := rfl
  obtain ⟨I, hI⟩ : ∃ z, inN s (pst l f t) = z := ⟨_, rfl⟩
  obtain ⟨O, hO⟩ : ∃ z, outN s (pst l f t) = z := ⟨_, rfl⟩
  obtain ⟨I0, hI0⟩ : ∃ z, inN s (pst l 0 t) = z := ⟨_, rfl⟩
  obtain ⟨O0, hO0⟩ : ∃ z, outN s (pst l 0 t) = z := ⟨_, rfl⟩
  obtain ⟨S0, hS0⟩ : ∃ z, sumN s (pst l 0 t) = z := ⟨_, rfl⟩
  rw [hI, hO] at HMF ⊢
  rw [hI0, hO0] at HM0 HSUM
  rw [hS0] at HSUM HIB HBV
  clear hI hO hI0 hO0 hS0
  by_cases hw : askE l s f t = 0
  · have hj : jrE l = 0 := (askE_ok hw).1
    rw [movE_ok _ hw, movE_ok _ hw, hw]
    have HMF2 := Lib.hid (HMF.out hj)
    by_cases hv : askE l s 0 t = 0
    · rw [if_pos hv] at HBV
      rw [hv, HBV.out]
      have HM02 := Lib.hid (HM0.out hj)
      have hwr : IntKind.i64.wrap (I0 - O0) = S0 := by rw [HSUM.out]; exact IntWalk.i64_in _ (by have := HIB.out hj; omega)
      have HNUM := Lib.hid (fun w0 => numberIs_yes S0 0 S0 w0 (fun _ => rfl) (fun h => absurd rfl h))
      clear hw hv hj HMF HM0 HBV HIB
      refine Lib.hid ?_
      go_wp2_with (first
        | (have := HB7; go_at_call 23; refine (HM02.out _ HB7.out).mono ?_; rintro e w8 ⟨rfl, hb8⟩; have HB8 := Lib.hid (HB7.out.trans (hb8.mono HB7.out.size)); clear hb8)
        | (go_at_call 23; refine (HMF2.out _ HB6.out).mono ?_; rintro e w7 ⟨rfl, hb7⟩; have HB7 := Lib.hid (HB6.out.trans (hb7.mono HB6.out.size)); clear hb7)
        | (go_at_call 11; refine (ledgerBegun_any _).mono ?_; rintro e w9 ⟨rfl, hb9⟩; have HB9 := Lib.hid (HB8.out.trans (hb9.mono HB8.out.size)); clear hb9)
        | (go_at_call 24; refine (HNUM.out _).mono ?_; rintro e w' ⟨rfl, h'⟩; subst w'))
      go_ret
      exact ⟨by first | rfl | exact kret_bool (by simp), HB9.out⟩
    · rw [if_neg hv] at HBV
      rw [HBV.out]
      have hvE : (askE l s 0 t == 0) = false := by simpa using hv
      have hvD : decide (askE l s 0 t = 0) = false := decide_eq_false hv
      obtain ⟨V, hV⟩ : ∃ z, askE l s 0 t = z := ⟨_, rfl⟩
      rw [hV] at hv hvE hvD ⊢
      have HNUM := Lib.hid (fun w0 => numberIs_yes 0 V 0 w0 (fun _ => rfl) (fun _ => rfl))
      clear hw hV hj HMF HM0 HBV HIB HSUM hv
      refine Lib.hid ?_
      go_wp2_with (first
        | (go_at_call 23; refine (HMF2.out _ HB6.out).mono ?_; rintro e w7 ⟨rfl, hb7⟩; have HB7 := Lib.hid (HB6.out.trans (hb7.mono HB6.out.size)); clear hb7)
        | (go_at_call 11; refine (ledgerBegun_any _).mono ?_; rintro e w9 ⟨rfl, hb9⟩; have HB9 := Lib.hid (HB7.out.trans (hb9.mono HB7.out.size)); clear hb9)
        | (go_at_call 24; refine (HNUM.out _).mono ?_; rintro e w' ⟨rfl, h'⟩; subst w'))
      go_ret
      exact ⟨by first | rfl | exact kret_bool (by simp), HB9.out⟩
  · rw [movE_z _ hw, movE_z _ hw]
    have hwE : (askE l s f t == 0) = false := by simpa using hw
    have hwD : decide (askE l s f t = 0) = false := decide_eq_false hw
    obtain ⟨Wv, hWv⟩ : ∃ z, askE l s f t = z := ⟨_, rfl⟩
    rw [hWv] at hw hwE hwD ⊢
    have hWW : (Wv == Wv) = true := by simp
    by_cases hv : askE l s 0 t = 0
    · have hj : jrE l = 0 := (askE_ok hv).1
      rw [if_pos hv] at HBV
      rw [hv, HBV.out]
      have HM02 := Lib.hid (HM0.out hj)
      have hwr : IntKind.i64.wrap (I0 - O0) = S0 := by rw [HSUM.out]; exact IntWalk.i64_in _ (by have := HIB.out hj; omega)
      have HNUM := Lib.hid (fun w0 => numberIs_yes S0 0 S0 w0 (fun _ => rfl) (fun h => absurd rfl h))
      clear hw hv hj HMF HM0 HBV HIB hWv
      refine Lib.hid ?_
      go_wp2_with (first
        | (go_at_call 23; refine (HM02.out _ HB6.out).mono ?_; rintro e w8 ⟨rfl, hb8⟩; have HB8 := Lib.hid (HB6.out.trans (hb8.mono HB6.out.size)); clear hb8)
        | (go_at_call 11; refine (ledgerBegun_any _).mono ?_; rintro e w9 ⟨rfl, hb9⟩; have HB9 := Lib.hid (HB8.out.trans (hb9.mono HB8.out.size)); clear hb9)
        | (go_at_call 24; refine (HNUM.out _).mono ?_; rintro e w' ⟨rfl, h'⟩; subst w'))
      go_ret
      exact ⟨by first | rfl | exact kret_bool (by simp), HB9.out⟩
    · rw [if_neg hv] at HBV
      rw [HBV.out]
      have hvE : (askE l s 0 t == 0) = false := by simpa using hv
      have hvD : decide (askE l s 0 t = 0) = false := decide_eq_false hv
      obtain ⟨V, hV⟩ : ∃ z, askE l s 0 t = z := ⟨_, rfl⟩
      rw [hV] at hv hvE hvD ⊢
      have HNUM := Lib.hid (fun w0 => numberIs_yes 0 V 0 w0 (fun _ => rfl) (fun _ => rfl))
      clear hw hV HMF HM0 HBV HIB HSUM hv hWv
      refine Lib.hid ?_
      go_wp2_with (first
        | (go_at_call 11; refine (ledgerBegun_any _).mono ?_; rintro e w9 ⟨rfl, hb9⟩; have HB9 := Lib.hid (HB6.out.trans (hb9.mono HB6.out.size)); clear hb9)
        | (go_at_call 24; refine (HNUM.out _).mono ?_; rintro e w' ⟨rfl, h'⟩; subst w'))
      go_ret
      exact ⟨by first | rfl | exact kret_bool (by simp), HB9.out⟩
end Go.Proofs.Ytdgcfakbmhchdaa
