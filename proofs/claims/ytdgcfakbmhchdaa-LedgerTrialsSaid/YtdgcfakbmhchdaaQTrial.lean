/-
  Promise Q3: the walk of Trial; Q4: what the balances of journals come to.
-/
import Derived.Test.YtdgcfakbmhchdaaQApp
namespace Go.Proofs.Ytdgcfakbmhchdaa
open Go.RowKit

def trE (l : List En) (day : Int) : Int := if jrE l = 0 then (if dayB day = true then 0 else 3) else jrE l
def TrialIs (w : World) (v : Value) (l : List En) (day : Int) : Prop := (trE l day ≠ 0 → v = .slice none 0 0) ∧ (trE l day = 0 → ∃ L, AmsOf (sumsS (pst l 0 day)) L ∧ L.length ≤ 100000 ∧ AmsIn w v L)
theorem TrialIs.below {w w' : World} {v : Value} {l : List En} {day : Int} (h : TrialIs w v l day) (hb : Go.RowKit.Below w.heap.size w w') : TrialIs w' v l day := ⟨h.1, fun he => by obtain ⟨L, h1, h2, h3⟩ := h.2 he; exact ⟨L, h1, h2, h3.below hb⟩⟩
set_option maxRecDepth 100000 in
set_option maxHeartbeats 2000000 in
theorem Trial_any (a : Option Addr) (n cap : Nat) (l : List En) (day : Int) (w : World) (hc : CameE w a l) (hn : l.length = n) :
    Calls Try.prog 25 #[.slice a n cap, .int .i64 day] w fun e w' => ∃ v, e = .returned (.tuple #[v, .int .i64 (trE l day)]) ∧ TrialIs w' v l day ∧ Go.RowKit.Below w.heap.size w w' := by
  have HC := Lib.hid hc
  have HN := Lib.hid hn
  have HE : Hid (trE l day = if jrE l = 0 then (if dayB day = true then 0 else 3) else jrE l) := rfl
  clear hc hn
  go_enter Try.func25, Try.ntmps25
  go_wp2_with fail
  refine (Check_any a n cap l _ HC.out HN.out).mono ?_
  rintro e w1 ⟨rfl, hb1⟩
  have HB1 := Lib.hid hb1
  have HC1 := Lib.hid (HC.out.below hb1)
  clear hb1
  by_cases h0 : jrE l = 0
  · have H0 := Lib.hid h0
    rw [if_pos h0] at HE
    rw [h0]
    clear h0
    cases hd : dayB day
    · rw [hd, if_neg (by decide)] at HE
      go_wp2_with (first | (go_at_call 36; refine (isDay_any _ _).mono ?_; rintro e w' ⟨rfl, h'⟩; subst w'; rw [hd]))
      refine bodyPost_ret (v := .tuple #[.slice none 0 0, .int .i64 3]) (by simp [results, Try.results25, go_sem] <;> rfl) rfl ?_
      rw [HE.out]
      exact ⟨_, rfl, ⟨fun _ => rfl, fun h => absurd h (by rw [HE.out]; decide)⟩, HB1.out⟩
    · rw [hd, if_pos rfl] at HE
      go_wp2_with (first | (go_at_call 36; refine (isDay_any _ _).mono ?_; rintro e w' ⟨rfl, h'⟩; subst w'; rw [hd]))
      refine (balances_any a n cap l HN.out day _ HC1.out H0.out).mono ?_
      rintro e w2 ⟨rfl, hsm, hb2⟩
      have HB2 := Lib.hid (HB1.out.trans (hb2.mono HB1.out.size))
      have HSM := Lib.hid hsm
      clear hsm hb2
      have hl2 : (pst l 0 day).length ≤ 2000 := pst_bound H0.out 0 day
      have HL2 := Lib.hid hl2
      clear hl2
      go_wp2_with fail
      refine (Amounts_any _ _ _ _ HSM.out (by have := HL2.out; omega)).mono ?_
      rintro e w3 ⟨L, v, rfl, hams, hlen, hin, hb3⟩
      have HB3 := Lib.hid (HB2.out.trans (hb3.mono HB2.out.size))
      have HAMS := Lib.hid hams
      have HIN := Lib.hid hin
      have HLL : Hid (L.length ≤ 100000) := Lib.hid (by have := HL2.out; omega)
      clear hams hin hlen hb3
      go_wp2_with fail
      refine bodyPost_ret (v := .tuple #[v, .int .i64 0]) (by simp [results, Try.results25, go_sem] <;> rfl) rfl ?_
      rw [HE.out]
      exact ⟨v, rfl, ⟨fun h => absurd HE.out h, fun _ => ⟨L, HAMS.out, HLL.out, HIN.out⟩⟩, HB3.out⟩
  · rw [if_neg h0] at HE
    have h0' : (jrE l != 0) = true := by simp [h0]
    obtain ⟨cc, hcc⟩ : ∃ c, jrE l = c := ⟨_, rfl⟩
    rw [hcc] at HE h0 h0' ⊢
    have HZ := Lib.hid h0
    clear hcc h0
    go_wp2_with fail
    refine bodyPost_ret (v := .tuple #[.slice none 0 0, .int .i64 cc]) (by simp [results, Try.results25, go_sem] <;> rfl) rfl ?_
    rw [HE.out]
    exact ⟨_, rfl, ⟨fun _ => rfl, fun h => absurd h (by rw [HE.out]; exact HZ.out)⟩, HB1.out⟩
set_option maxRecDepth 100000 in
set_option maxHeartbeats 2000000 in
theorem sameAmounts_yes (x y : Option Addr) (n c d : Nat) (l : List Am) (w : World) (hx : CameA w x l) (hy : CameA w y l) (hn : l.length = n) (hm : n ≤ 9223372036854775807) :
    Calls Try.prog 27 #[.slice x n c, .slice y n d] w fun e w' => e = .returned (.bool true) ∧ ∃ q, w' = w.drewN q := by
  have HX := Lib.hid (fun h0 => hx.open hn h0)
  have HY := Lib.hid (fun h0 => hy.open hn h0)
  have hnn : ((n : Int) != (n : Int)) = false := by simp
  clear hx hy hn
  go_enter Try.func27, Try.ntmps27
  go_wp2_with fail
  go_loopw [5] (fun i wr => ∃ k : Nat, k ≤ n ∧ i = .int .i64 k ∧ ∃ q, wr = w.drewN q) (fun i _ => n - (intOf i).toNat)
  case atStart => exact ⟨0, Nat.zero_le _, rfl, 0, rfl⟩
  case round =>
    obtain ⟨k, hk, rfl, q, rfl⟩ := hrel
    by_cases hlt : k < n
    · have hlt' : (k : Int) < (n : Int) := by omega
      obtain ⟨b1, o1, rfl, hc1⟩ := HX.out (by omega)
      obtain ⟨b2, o2, rfl, hc2⟩ := HY.out (by omega)
      obtain ⟨x0, x1⟩ := hc1 w (Below.refl _ _) k hlt
      obtain ⟨y0, y1⟩ := hc2 w (Below.refl _ _) k hlt
      clear hc1 hc2
      generalize (anth l k).name = nm at *
      generalize (anth l k).mon = mo at *
      go_wp2_with fail
      go_quiet (fail)
      go_wp2_with fail
      go_roundw
      case rel => exact ⟨k + 1, by omega, by go_num, _, rfl⟩
      case measure => simp [intOf]; omega
    · go_wp2_with fail
      go_ret
      exact ⟨rfl, _, rfl⟩
theorem sameAms_yes (v u : Value) (l : List Am) (w : World) (hl : l.length ≤ 100000) (hv : AmsIn w v l) (hu : AmsIn w u l) :
    Calls Try.prog 27 #[v, u] w fun e w' => e = .returned (.bool true) ∧ Go.RowKit.Below w.heap.size w w' := by
  obtain ⟨x, c, rfl, hv⟩ := hv
  obtain ⟨y, d, rfl, hu⟩ := hu
  refine (sameAmounts_yes x y l.length c d l w hv hu rfl (by omega)).mono ?_
  rintro e w' ⟨h, q, rfl⟩
  exact ⟨h, kbelow_dN (Below.refl _ _) q⟩
/-- Lists of the same sums are the same. -/
theorem AmsOf.same {l m : List Am} {L M : List Am} (h : AmsOf (sumsS l) L) (h' : AmsOf (sumsS m) M) (he : ∀ s, sumN s l = sumN s m) : L = M := by
  have key : ∀ (l m : List Am), (∀ s, sumN s l = sumN s m) → ∀ t, MadeS (sumsS l) t → MadeS (sumsS m) t := by
    intro l m he t ⟨h1, h2, h3⟩
    refine ⟨h1, ?_, h3⟩
    have e1 := sumsS_getD l t.name
    rw [h2] at e1
    have e2 := sumsS_getD m t.name
    rw [← he t.name, ← e1] at e2
    cases hg : sumsS m t.name with
    | none => rw [hg] at e2; exact absurd e2.symm h3
    | some c => rw [hg] at e2; simpa using e2
  exact upA_unique h.2 h'.2 ((List.perm_ext_iff_of_nodup h.1.1 h'.1.1).2 fun t => (h.1.2 t).trans ((⟨key l m he t, key m l (fun s => (he s).symm) t⟩ : MadeS (sumsS l) t ↔ MadeS (sumsS m) t).trans (h'.1.2 t).symm))
theorem pst_append (l m : List En) (f t : Int) : pst (l ++ m) f t = pst l f t ++ pst m f t := by
  unfold pst
  rw [List.filter_append, List.flatMap_append]
theorem sumN_pst (s : ByteArray) (l m : List En) (f t : Int) : sumN s (pst (l ++ m) f t) = sumN s (pst l f t) + sumN s (pst m f t) := by rw [pst_append, sumN_append]
theorem jrE_of {l : List En} (h1 : l.length ≤ 100) (h2 : ∀ r ∈ l, enE r = 0) (h3 : upD l = true) : jrE l = 0 := by
  unfold jrE
  rw [if_neg (by omega), ensE_ok (fun j hj => h2 _ (enth_mem hj)), if_pos rfl, if_pos h3]
theorem enth_app (l m : List En) (j : Nat) (h : j < l.length) : enth (l ++ m) j = enth l j := by simp [enth, List.getElem?_append_left h]
/-- Entries of one day may be posted in any order. -/
theorem jrE_swap {l : List En} {x y : En} (hd : x.day = y.day) (h : jrE (l ++ [x] ++ [y]) = 0) (h' : jrE (l ++ [y]) = 0) : jrE (l ++ [y] ++ [x]) = 0 := by
  obtain ⟨a1, a2, a3⟩ := jrE_ok h
  obtain ⟨b1, b2, b3⟩ := jrE_ok h'
  refine jrE_of (by simpa using a1) (fun r hr => ?_) ?_
  · simp at hr
    rcases hr with hr | rfl | rfl
    · exact a2 r (by simp [hr])
    · exact a2 r (by simp)
    · exact a2 r (by simp)
  · rw [upD_iff] at b3 ⊢
    intro j hj
    simp at hj
    by_cases hjl : j + 1 < (l ++ [y]).length
    · rw [enth_app _ _ _ (by omega), enth_app _ _ _ hjl]
      exact b3 j hjl
    · have e : j = l.length := by simp at hjl; omega
      subst e
      rw [enth_app _ _ _ (by simp), enth_last]
      have := enth_last (l ++ [y]) x
      rw [List.length_append, List.length_singleton] at this
      rw [this, hd]
      exact Int.le_refl _
/-- Two entries in boxes behind what came in. -/
def Two (w w' : World) (d d2 : Int) (ax ay : Option Addr) (m cx m2 cy : Nat) : Prop := Bx w' w.heap.size (.int .i64 d) (.slice ax m cx) ∧ Bx w' (w.heap.size + 1) (.int .i64 d2) (.slice ay m2 cy) ∧ Go.RowKit.Below w.heap.size w w' ∧ w.heap.size + 2 ≤ w'.heap.size
theorem Two.made (w : World) (d d2 : Int) (ax ay : Option Addr) (m cx m2 cy : Nat) : Two w ((w.alloc (.cells #[.int .i64 d, .slice ax m cx] 29)).alloc (.cells #[.int .i64 d2, .slice ay m2 cy] 29)) d d2 ax ay m cx m2 cy := by
  refine ⟨(Bx.made w _ _ _).below (kbelow_box _ _) (by simp), ?_, ((Below.refl w.heap.size w).alloc (Nat.le_refl _) _).alloc (by simp) _, by simp⟩
  have := Bx.made (w.alloc (.cells #[.int .i64 d, .slice ax m cx] 29)) (.int .i64 d2) (.slice ay m2 cy) 29
  rw [World.size_alloc] at this
  exact this
theorem Two.below {w w1 w2 : World} {d d2 : Int} {ax ay : Option Addr} {m cx m2 cy : Nat} (h : Two w w1 d d2 ax ay m cx m2 cy) (hb : Go.RowKit.Below w1.heap.size w1 w2) : Two w w2 d d2 ax ay m cx m2 cy := by
  have h4 := h.2.2.2
  exact ⟨h.1.below hb (by omega), h.2.1.below hb (by omega), h.2.2.1.trans (hb.mono (by omega)), Nat.le_trans h4 hb.size⟩
theorem Two.set {w w1 : World} {d d2 : Int} {ax ay : Option Addr} {m cx m2 cy : Nat} (h : Two w w1 d d2 ax ay m cx m2 cy) (d3 : Int) : Two w (w1.setCell ⟨w.heap.size + 1, 0, none⟩ (.int .i64 d3)) d d3 ax ay m cx m2 cy :=
  ⟨h.1.other (p := ⟨w.heap.size + 1, 0, none⟩) (by simp) _, h.2.1.set0 _, h.2.2.1.setCell (p := ⟨w.heap.size + 1, 0, none⟩) (show w.heap.size ≤ w.heap.size + 1 by omega) _, by simpa using h.2.2.2⟩
end Go.Proofs.Ytdgcfakbmhchdaa
