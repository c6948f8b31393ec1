/-
  The walk of the law RulesAgain; lines that are parsed are right.
-/
import Derived.Test.YtchiifnciijagaaGreatDoorRB
import Derived.Test.YtchiifnciijagaaGreatDoorJD
set_option linter.unusedSimpArgs false
namespace Go.Proofs.YtchiifnciijagaaGreatDoor
open Go.RowKit

theorem sumN_shift (f : Nat → Nat) : ∀ m, sumN f (m + 1) = f 0 + sumN (fun j => f (j + 1)) m
  | 0 => by simp [sumN]
  | m + 1 => by
    have := sumN_shift f m
    simp only [sumN] at this ⊢
    omega
theorem sumP_cons (r : Ln) (l : List Ln) : sumP (r :: l) (r :: l).length = r.ex.parts + sumP l l.length := sumN_shift _ _
theorem maxN_all {f : Nat → Nat} {b : Nat} : ∀ {m : Nat}, (∀ j, j < m → f j ≤ b) → maxN f m ≤ b
  | 0, _ => Nat.zero_le _
  | m + 1, h => by
    have h1 := maxN_all (m := m) fun j hj => h j (by omega)
    have h2 := h m (by omega)
    simp only [maxN]
    omega
theorem firstE_all {f : Nat → Int} : ∀ {m : Nat}, (∀ j, j < m → f j = 0) → firstE f m = 0
  | 0, _ => rfl
  | m + 1, h => by
    have h1 := firstE_all (m := m) fun j hj => h j (by omega)
    rw [firstE_ok h1]
    exact h m (by omega)
theorem lnsT_ok {T : List Tk} (hT : TokOk T) : ∀ (f c k : Nat) (l : List Ln), c ≤ 40 → k < T.length → lnsT T f c k = some l → c + l.length ≤ 40 ∧ sumP l l.length + k < T.length ∧ ∀ r ∈ l, lineE r = 0 ∧ r.ex.depth ≤ 20
  | 0, _, _, _, _, _, h => by cases h
  | f + 1, c, k, l, hc, hk, h => by
    rw [lnsT] at h
    split at h
    · injection h with h
      subst h
      exact ⟨by simpa using hc, by simpa [sumP, sumN] using hk, fun r hr => by cases hr⟩
    · split at h
      · cases h
      · rename_i h1 h2
        obtain ⟨⟨a, k1⟩, e1, h⟩ := Option.bind_eq_some_iff.1 h
        obtain ⟨q, e2, h⟩ := Option.bind_eq_some_iff.1 h
        injection h with h
        subst h
        obtain ⟨o1, o2, o3, o4, o5, o6, o7⟩ := lnT_ok hT hk e1
        obtain ⟨i1, i2, i3⟩ := lnsT_ok hT f (c + 1) k1 q (by omega) o7 e2
        refine ⟨by simp only [List.length_cons]; omega, ?_, fun r hr => ?_⟩
        · rw [sumP_cons]
          show a.ex.parts + _ + k < _
          omega
        · rcases List.mem_cons.1 hr with rfl | hr
          · refine ⟨?_, o4⟩
            unfold lineE
            rw [if_neg (by omega), if_pos o2]
            exact o3
          · exact i3 r hr
theorem lnth_mem {l : List Ln} {j : Nat} (h : j < l.length) : lnth l j ∈ l := by
  unfold lnth
  rw [List.getD_eq_getElem?_getD, List.getElem?_eq_getElem h]
  exact List.getElem_mem h
theorem parsed_ok {s : ByteArray} {L : List Tk} {l : List Ln} (hs : s.size ≤ 4000) (hT : Toks s s.size L) (h : linesT (L ++ [endK s]) = some l) : linesE l = 0 := by
  have hlL : L.length ≤ 4000 := by have := hT.len; omega
  have ho : TokOk (L ++ [endK s]) := tok_ok hlL (toks_good hs hT)
  obtain ⟨h1, h2, h3⟩ := lnsT_ok ho _ 0 0 l (by omega) ho.pos h
  have h4 := ho.long
  have hd : maxD l l.length ≤ 20 := maxN_all fun j hj => (h3 _ (lnth_mem hj)).2
  unfold linesE
  rw [if_neg (by omega)]
  exact firstE_all fun j hj => (h3 _ (lnth_mem hj)).1
theorem prnE_two {l : List Ln} (h : linesE l = 0) (h0 : prnE l ≠ 0) : prnE l = 2 := by
  unfold prnE at h0 ⊢
  rw [if_pos h] at h0 ⊢
  by_cases h2 : (lnsTx l l.length).length ≤ 4000
  · rw [if_pos h2] at h0; exact absurd rfl h0
  · rw [if_neg h2]
theorem CameF.at {w w' : World} {B : Nat} {x : Option Addr} {l : List Ln} (h : CameF w B x l) (hb : Below w.heap.size w w') : CameL w' x l := h.came.below hb
set_option maxRecDepth 100000 in
set_option maxHeartbeats 2000000 in
theorem walk_rulesAgain (s : ByteArray) (hs : s.size ≤ 140737488351232) (w : World) (hP : PVars w ∧ Shp w ∧ Mny.Tab w) :
    Calls Tryz.prog 6 #[.string s] w fun e w' => e = .returned (.bool true) ∧ Below w.heap.size w w' := by
  have HV : Hid (RVars w) := ⟨hP.1, hP.2.1, hP.2.2⟩
  have HS : Hid (s.size ≤ 9223372036854775807) := Lib.hid (by omega)
  clear hP hs
  go_enter Tryz.func6, Tryz.ntmps6
  go_wp2_with fail
  refine (rulesBegun_any _ HV.out).mono ?_
  rintro e w1 ⟨rfl, hb1⟩
  have HB1 := Lib.hid hb1
  clear hb1
  go_wp2_with fail
  refine (Parse_any s w1 HS.out (HV.out.below HB1.out).pv).mono ?_
  rintro e w2 ⟨hp, hb2⟩
  have HB2 := Lib.hid (HB1.out.trans (hb2.mono HB1.out.size))
  clear hb2
  rcases hp with ⟨L, l, x, n, c, hs4, hT, hl, rfl, hc, hn⟩ | ⟨er, at', h0, rfl, -⟩
  · have HE := Lib.hid (parsed_ok hs4 hT hl)
    have HN := Lib.hid hn
    have HM : Hid (n ≤ maxLen) := by
      have h1 := (lines_okP HE.out).1
      have h2 := HN.out
      unfold Hid maxLen
      omega
    have HC2 := Lib.hid hc.came
    have HF2 := Lib.hid hc
    have HBX := Lib.hid (kbelow_box w2 (.cells #[.int .i64 0, .int .i64 0] 32))
    have HX3 := Lib.hid (two_made w2 (.int .i64 0) (.int .i64 0) 32)
    have HB3 := Lib.hid (HB2.out.trans (HBX.out.mono HB2.out.size))
    have HC3 := Lib.hid (HC2.out.below HBX.out)
    have hz3 : w2.heap.size < (w2.alloc (.cells #[.int .i64 0, .int .i64 0] 32)).heap.size := by simp
    clear hs4 hT hl hc hn
    go_wp2_with fail
    refine (check_lines x n c l _ (HV.out.below HB3.out).sh HC3.out HN.out HM.out).mono ?_
    rintro e w4 ⟨rfl, hb4⟩
    have HB4 := Lib.hid (HB3.out.trans (hb4.mono HB3.out.size))
    have HC4 := Lib.hid (HC3.out.below hb4)
    have HY4 := Lib.hid (HBX.out.trans (hb4.mono HBX.out.size))
    have HX4 := Lib.hid (HX3.out.below hb4 hz3)
    have hz4 : w2.heap.size < w4.heap.size := Nat.lt_of_lt_of_le hz3 hb4.size
    clear hb4 hz3
    rw [HE.out]
    go_wp2_with fail
    refine (print_rv x n c l _ (HV.out.below HB4.out) HC4.out HN.out HM.out).mono ?_
    rintro e w5 ⟨rfl, hb5⟩
    have HB5 := Lib.hid (HB4.out.trans (hb5.mono HB4.out.size))
    have HC5 := Lib.hid (HC4.out.below hb5)
    have HY5 := Lib.hid (HY4.out.trans (hb5.mono HY4.out.size))
    have HX5 := Lib.hid (HX4.out.below hb5 hz4)
    have hz5 : w2.heap.size < w5.heap.size := Nat.lt_of_lt_of_le hz4 hb5.size
    clear hb5 hz4
    by_cases h0 : prnE l = 0
    · have HPE := Lib.hid h0
      rw [h0]
      have HPZ := Lib.hid (Parse_any ⟨(prnT l).toArray⟩ w5 (Nat.le_trans (prn_size l) (by decide)) (HV.out.below HB5.out).pv)
      have HPP := Lib.hid (fun w' (e : Ending) (hp : ParseR ⟨(prnT l).toArray⟩ w' w5.heap.size e) => parse_printed HPE.out HC5.out.full hp)
      clear h0
      generalize (⟨(prnT l).toArray⟩ : ByteArray) = S at *
      go_wp2_with fail
      refine HPZ.out.mono ?_
      rintro e w6 ⟨hp, hb6⟩
      obtain ⟨l', y, d, hlk, rfl, hc⟩ := HPP.out _ _ hp
      have HLK := Lib.hid hlk
      have HLE : Hid (l'.length = n) := (likes_at hlk).1.trans HN.out
      rw [HLE.out]
      have HB6 := Lib.hid (HB5.out.trans (hb6.mono HB5.out.size))
      have HX6 := Lib.hid (HX5.out.below hb6 hz5)
      have HY6 := Lib.hid (HY5.out.trans (hb6.mono HY5.out.size))
      have HC6 := Lib.hid (HF2.out ((w6.setCell ⟨w2.heap.size, 0, none⟩ (.int .i64 0)).setCell ⟨w2.heap.size, 1, none⟩ (.int .i64 0)) (fun b _ hb => ((Below.heap_setCell _ ⟨w2.heap.size, 1, none⟩ _ b (by simp; omega)).trans (Below.heap_setCell _ ⟨w2.heap.size, 0, none⟩ _ b (by simp; omega))).trans (HY6.out.block b hb)) (by simp; exact HY6.out.size))
      have HB7 : Hid (Below w.heap.size w ((w6.setCell ⟨w2.heap.size, 0, none⟩ (.int .i64 0)).setCell ⟨w2.heap.size, 1, none⟩ (.int .i64 0))) := (HB6.out.setCell (by exact HB2.out.size) _).setCell (by exact HB2.out.size) _
      have HD6 := Lib.hid (hc.to (B' := w5.heap.size) (w' := (w6.setCell ⟨w2.heap.size, 0, none⟩ (.int .i64 0)).setCell ⟨w2.heap.size, 1, none⟩ (.int .i64 0)) (fun b hb _ => (Below.heap_setCell _ ⟨w2.heap.size, 1, none⟩ _ b (by simp; omega)).trans (Below.heap_setCell _ ⟨w2.heap.size, 0, none⟩ _ b (by simp; omega))) (by simp) (Nat.le_refl _)).came
      obtain ⟨⟨y0, y1⟩, z0, z1⟩ := HX6.out.two
      clear hp hb6 hlk hc
      go_wp2_with fail
      refine (sameLines_likes x y n c d l l' _ HC6.out HD6.out HLK.out HN.out HM.out).mono ?_
      rintro e w8 ⟨rfl, hb8⟩
      have HB8 := Lib.hid (HB7.out.trans (hb8.mono HB7.out.size))
      clear hb8
      go_wp2_with fail
      go_ret
      exact ⟨rfl, HB8.out⟩
    · have h2 : prnE l = 2 := prnE_two HE.out h0
      clear h0
      rw [h2]
      go_wp2_with fail
      go_ret
      exact ⟨rfl, HB5.out⟩
  · have hz : (er != 0) = true := by simp [h0]
    have hzB : (er == 0) = false := by simp [h0]
    have HBX := Lib.hid (HB2.out.alloc HB2.out.size (.cells #[.int .i64 er, .int .i64 at'] 32))
    clear h0
    go_wp2_with fail
    go_ret
    exact ⟨rfl, HBX.out⟩
end Go.Proofs.YtchiifnciijagaaGreatDoor
