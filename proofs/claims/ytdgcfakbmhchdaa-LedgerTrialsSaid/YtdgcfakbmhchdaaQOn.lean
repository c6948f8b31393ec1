/-
  The law's onLedger, at two days and at one; its numberIs.
-/
import Derived.Test.YtdgcfakbmhchdaaQMovR
namespace Go.Proofs.Ytdgcfakbmhchdaa
open Go.RowKit

/-- What was wrong with the first i of two days, and of one. -/
def st2 (f t : Int) : Nat → Int
  | 0 => 0
  | 1 => if dayB f = true then 0 else 3
  | _ => if dayB f = true ∧ dayB t = true ∧ f ≤ t then 0 else 3
def st1 (t : Int) : Nat → Int
  | 0 => 0
  | _ => if dayB t = true then 0 else 3
theorem st2_1 (f t : Int) : st2 f t 1 = if dayB f = true then 0 else 3 := rfl
theorem st2_2 (f t : Int) : st2 f t 2 = if dayB f = true ∧ dayB t = true ∧ f ≤ t then 0 else 3 := rfl
theorem st1_1 (t : Int) : st1 t 1 = if dayB t = true then 0 else 3 := rfl
theorem askE_2 (l : List En) (s : ByteArray) (f t : Int) : askE l s f t = if jrE l = 0 then (if namB s = true then st2 f t 2 else 1) else jrE l := rfl
theorem askE_1 (l : List En) (s : ByteArray) (t : Int) : askE l s 0 t = if jrE l = 0 then (if namB s = true then st1 t 1 else 1) else jrE l := by
  unfold askE st1
  have e : (dayB 0 = true ∧ dayB t = true ∧ 0 ≤ t) ↔ dayB t = true := ⟨fun h => h.2.1, fun h => ⟨by decide, h, (of_decide_eq_true h).1⟩⟩
  simp only [e]
set_option maxRecDepth 100000 in
set_option maxHeartbeats 4000000 in
theorem onLedger_2 (a : Option Addr) (n cap : Nat) (l : List En) (s : ByteArray) (f t : Int) (B c : Nat) (w : World) (hc : CameE w a l) (hn : l.length = n) (hsz : s.size ≤ 9223372036854775807) (d0 : w.cell? ⟨B, 0, none⟩ = some (.int .i64 f)) (d1 : w.cell? ⟨B, 1, none⟩ = some (.int .i64 t)) :
    Calls Try.prog 22 #[.slice a n cap, .string s, .slice (some ⟨B, 0, none⟩) 2 c] w fun e w' => e = .returned (.int .i64 (askE l s f t)) ∧ Go.RowKit.Below w.heap.size w w' := by
  have HE := Lib.hid (askE_2 l s f t)
  have HC := Lib.hid hc
  have HN := Lib.hid hn
  have hBlt := oblt_of_cell d0
  clear hc hn
  go_enter Try.func22, Try.ntmps22
  go_wp2_with fail
  refine (checkJournal_ref a n cap l _ HC.out HN.out).mono ?_
  rintro e w1 ⟨rfl, hb1⟩
  have HB1 := Lib.hid hb1
  have c0 := (hb1.cell (p := ⟨B, 0, none⟩) hBlt).trans d0
  have c1 := (hb1.cell (p := ⟨B, 1, none⟩) hBlt).trans d1
  clear hb1
  by_cases h0 : jrE l = 0
  · rw [h0, if_pos rfl] at HE
    rw [h0]
    go_wp2_with (first | (go_at_call 31; refine (isName_ref s _ hsz).mono ?_; rintro e w2 ⟨bn, rfl, hbn, hb2⟩; refine Hid.out ?_))
    obtain rfl : bn = namB s := by
      unfold namB
      by_cases q : NameP s
      · rw [decide_eq_true q]; exact hbn.2 q
      · rw [decide_eq_false q]
        cases bn
        · rfl
        · exact absurd (hbn.1 rfl) q
    have HB2 := Lib.hid (HB1.out.trans (hb2.mono HB1.out.size))
    have hBlt1 := oblt_of_cell c0
    have z0 := (hb2.cell (p := ⟨B, 0, none⟩) hBlt1).trans c0
    have z1 := (hb2.cell (p := ⟨B, 1, none⟩) hBlt1).trans c1
    clear hb2 hbn
    cases hnm : namB s
    · rw [hnm, if_neg (by decide)] at HE
      refine Lib.hid ?_
      go_wp2_with fail
      go_loopw [7, 8] (fun ev iv wv => ev = .int .i64 1 ∧ iv = .int .i64 0 ∧ wv = w2) (fun _ _ _ => 0)
      case atStart => exact ⟨rfl, rfl, rfl⟩
      case round =>
        obtain ⟨rfl, rfl, rfl⟩ := hrel
        go_wp2_with fail
        go_ret
        exact ⟨kret_int (by rw [HE.out]), HB2.out⟩
    · rw [hnm, if_pos rfl] at HE
      refine Lib.hid ?_
      go_wp2_with fail
      go_loopw [7, 8] (fun ev iv wv => ∃ i : Nat, i ≤ 2 ∧ iv = .int .i64 i ∧ ev = .int .i64 (st2 f t i) ∧ wv.cell? ⟨B, 0, none⟩ = some (.int .i64 f) ∧ wv.cell? ⟨B, 1, none⟩ = some (.int .i64 t) ∧ Go.RowKit.Below w.heap.size w wv) (fun _ iv _ => 2 - (intOf iv).toNat)
      case atStart => exact ⟨0, by omega, rfl, rfl, z0, z1, HB2.out⟩
      case round =>
        clear z0 z1
        obtain ⟨i, hi, rfl, rfl, z0, z1, hbq⟩ := hrel
        have HBQ := Lib.hid hbq
        have HBN : Hid (∀ k, Go.RowKit.Below w.heap.size w (wr.drewN k)) := fun k => hbq.trans ⟨rfl, rfl, rfl, Nat.le_refl _, fun _ _ => rfl⟩
        clear hbq
        have h3 : i = 0 ∨ i = 1 ∨ i = 2 := by omega
        rcases h3 with rfl | rfl | rfl
        · rw [show st2 f t 0 = 0 from rfl]
          cases hd : dayB f
          · have HS : Hid (st2 f t 1 = 3) := by unfold Hid; rw [st2_1]; rw [if_neg (by rw [hd]; decide)]
            go_wp2_with fail
            go_quiet ((go_at_call 30; exact Calls.quiet_of_same (isDay_ref _ _)))
            go_wp2_with fail
            go_roundw
            case rel => exact ⟨1, by omega, by go_num, by rw [HS.out], z0, z1, HBN.out _⟩
            case measure => simp [intOf]
          · have HS : Hid (st2 f t 1 = 0) := by unfold Hid; rw [st2_1]; rw [if_pos hd]
            go_wp2_with fail
            go_quiet ((go_at_call 30; exact Calls.quiet_of_same (isDay_ref _ _)))
            go_wp2_with fail
            go_roundw
            case rel => exact ⟨1, by omega, by go_num, by rw [HS.out], z0, z1, HBN.out _⟩
            case measure => simp [intOf]
        · cases hd : dayB f
          · have HS : Hid (st2 f t 2 = 3) := by unfold Hid; rw [st2_2]; rw [if_neg (by rw [hd]; simp)]
            rw [show st2 f t 1 = 3 from by rw [st2_1]; rw [if_neg (by rw [hd]; decide)]]
            go_wp2_with fail
            go_ret
            exact ⟨kret_int (by rw [HE.out, HS.out]), HBQ.out⟩
          · rw [show st2 f t 1 = 0 from by rw [st2_1]; rw [if_pos hd]]
            cases ht : dayB t
            · have HS : Hid (st2 f t 2 = 3) := by unfold Hid; rw [st2_2]; rw [if_neg (by rw [ht]; simp)]
              go_wp2_with fail
              go_quiet ((go_at_call 30; exact Calls.quiet_of_same (isDay_ref _ _)))
              go_wp2_with fail
              go_roundw
              case rel => exact ⟨2, by omega, by go_num, by rw [HS.out], z0, z1, HBN.out _⟩
              case measure => simp [intOf]
            · by_cases hft : t < f
              · have HS : Hid (st2 f t 2 = 3) := by unfold Hid; rw [st2_2]; rw [if_neg (fun z => by omega)]
                go_wp2_with fail
                go_quiet ((go_at_call 30; exact Calls.quiet_of_same (isDay_ref _ _)))
                go_wp2_with fail
                go_roundw
                case rel => exact ⟨2, by omega, by go_num, by rw [HS.out], z0, z1, HBN.out _⟩
                case measure => simp [intOf]
              · have hft' : decide (t < f) = false := decide_eq_false hft
                have HS : Hid (st2 f t 2 = 0) := by unfold Hid; rw [st2_2]; rw [if_pos ⟨hd, ht, by omega⟩]
                go_wp2_with fail
                go_quiet ((go_at_call 30; exact Calls.quiet_of_same (isDay_ref _ _)))
                go_wp2_with fail
                go_roundw
                case rel => exact ⟨2, by omega, by go_num, by rw [HS.out], z0, z1, HBN.out _⟩
                case measure => simp [intOf]
        · obtain ⟨sv, hsv⟩ : ∃ sv, st2 f t 2 = sv := ⟨_, rfl⟩
          rw [hsv] at HE ⊢
          clear hsv
          go_wp2_with fail
          go_ret
          exact ⟨kret_int (by rw [HE.out]), HBQ.out⟩
  · rw [if_neg h0] at HE
    have hE1 : (jrE l == 0) = false := by simpa using h0
    have hE2 : decide (jrE l = 0) = false := decide_eq_false h0
    obtain ⟨cc, hcc⟩ : ∃ z, jrE l = z := ⟨_, rfl⟩
    rw [hcc] at HE hE1 hE2 ⊢
    clear hcc h0
    go_wp2_with fail
    go_loopw [7, 8] (fun ev iv wv => ev = .int .i64 cc ∧ iv = .int .i64 0 ∧ wv = w1) (fun _ _ _ => 0)
    case atStart => exact ⟨rfl, rfl, rfl⟩
    case round =>
      obtain ⟨rfl, rfl, rfl⟩ := hrel
      go_wp2_with fail
      go_ret
      exact ⟨kret_int (by rw [HE.out]), HB1.out⟩
set_option maxRecDepth 100000 in
set_option maxHeartbeats 4000000 in
theorem onLedger_1 (a : Option Addr) (n cap : Nat) (l : List En) (s : ByteArray) (t : Int) (B c : Nat) (w : World) (hc : CameE w a l) (hn : l.length = n) (hsz : s.size ≤ 9223372036854775807) (d0 : w.cell? ⟨B, 0, none⟩ = some (.int .i64 t)) :
    Calls Try.prog 22 #[.slice a n cap, .string s, .slice (some ⟨B, 0, none⟩) 1 c] w fun e w' => e = .returned (.int .i64 (askE l s 0 t)) ∧ Go.RowKit.Below w.heap.size w w' := by
  have HE := Lib.hid (askE_1 l s t)
  have HC := Lib.hid hc
  have HN := Lib.hid hn
  have hBlt := oblt_of_cell d0
  clear hc hn
  go_enter Try.func22, Try.ntmps22
  go_wp2_with fail
  refine (checkJournal_ref a n cap l _ HC.out HN.out).mono ?_
  rintro e w1 ⟨rfl, hb1⟩
  have HB1 := Lib.hid hb1
  have c0 := (hb1.cell (p := ⟨B, 0, none⟩) hBlt).trans d0
  clear hb1
  by_cases h0 : jrE l = 0
  · rw [h0, if_pos rfl] at HE
    rw [h0]
    go_wp2_with (first | (go_at_call 31; refine (isName_ref s _ hsz).mono ?_; rintro e w2 ⟨bn, rfl, hbn, hb2⟩; refine Hid.out ?_))
    obtain rfl : bn = namB s := by
      unfold namB
      by_cases q : NameP s
      · rw [decide_eq_true q]; exact hbn.2 q
      · rw [decide_eq_false q]
        cases bn
        · rfl
        · exact absurd (hbn.1 rfl) q
    have HB2 := Lib.hid (HB1.out.trans (hb2.mono HB1.out.size))
    have hBlt1 := oblt_of_cell c0
    have z0 := (hb2.cell (p := ⟨B, 0, none⟩) hBlt1).trans c0
    clear hb2 hbn
    cases hnm : namB s
    · rw [hnm, if_neg (by decide)] at HE
      refine Lib.hid ?_
      go_wp2_with fail
      go_loopw [7, 8] (fun ev iv wv => ev = .int .i64 1 ∧ iv = .int .i64 0 ∧ wv = w2) (fun _ _ _ => 0)
      case atStart => exact ⟨rfl, rfl, rfl⟩
      case round =>
        obtain ⟨rfl, rfl, rfl⟩ := hrel
        go_wp2_with fail
        go_ret
        exact ⟨kret_int (by rw [HE.out]), HB2.out⟩
    · rw [hnm, if_pos rfl] at HE
      refine Lib.hid ?_
      go_wp2_with fail
      go_loopw [7, 8] (fun ev iv wv => ∃ i : Nat, i ≤ 1 ∧ iv = .int .i64 i ∧ ev = .int .i64 (st1 t i) ∧ wv.cell? ⟨B, 0, none⟩ = some (.int .i64 t) ∧ Go.RowKit.Below w.heap.size w wv) (fun _ iv _ => 1 - (intOf iv).toNat)
      case atStart => exact ⟨0, by omega, rfl, rfl, z0, HB2.out⟩
      case round =>
        clear z0
        obtain ⟨i, hi, rfl, rfl, z0, hbq⟩ := hrel
        have HBQ := Lib.hid hbq
        have HBN : Hid (∀ k, Go.RowKit.Below w.heap.size w (wr.drewN k)) := fun k => hbq.trans ⟨rfl, rfl, rfl, Nat.le_refl _, fun _ _ => rfl⟩
        clear hbq
        have h3 : i = 0 ∨ i = 1 := by omega
        rcases h3 with rfl | rfl
        · rw [show st1 t 0 = 0 from rfl]
          cases hd : dayB t
          · have HS : Hid (st1 t 1 = 3) := by unfold Hid; rw [st1_1]; rw [if_neg (by rw [hd]; decide)]
            go_wp2_with fail
            go_quiet ((go_at_call 30; exact Calls.quiet_of_same (isDay_ref _ _)))
            go_wp2_with fail
            go_roundw
            case rel => exact ⟨1, by omega, by go_num, by rw [HS.out], z0, HBN.out _⟩
            case measure => simp [intOf]
          · have HS : Hid (st1 t 1 = 0) := by unfold Hid; rw [st1_1]; rw [if_pos hd]
            go_wp2_with fail
            go_quiet ((go_at_call 30; exact Calls.quiet_of_same (isDay_ref _ _)))
            go_wp2_with fail
            go_roundw
            case rel => exact ⟨1, by omega, by go_num, by rw [HS.out], z0, HBN.out _⟩
            case measure => simp [intOf]
        · obtain ⟨sv, hsv⟩ : ∃ sv, st1 t 1 = sv := ⟨_, rfl⟩
          rw [hsv] at HE ⊢
          clear hsv
          go_wp2_with fail
          go_ret
          exact ⟨kret_int (by rw [HE.out]), HBQ.out⟩
  · rw [if_neg h0] at HE
    have hE1 : (jrE l == 0) = false := by simpa using h0
    have hE2 : decide (jrE l = 0) = false := decide_eq_false h0
    obtain ⟨cc, hcc⟩ : ∃ z, jrE l = z := ⟨_, rfl⟩
    rw [hcc] at HE hE1 hE2 ⊢
    clear hcc h0
    go_wp2_with fail
    go_loopw [7, 8] (fun ev iv wv => ev = .int .i64 cc ∧ iv = .int .i64 0 ∧ wv = w1) (fun _ _ _ => 0)
    case atStart => exact ⟨rfl, rfl, rfl⟩
    case round =>
      obtain ⟨rfl, rfl, rfl⟩ := hrel
      go_wp2_with fail
      go_ret
      exact ⟨kret_int (by rw [HE.out]), HB1.out⟩
theorem numberIs_yes (x er want : Int) (w : World) (h0 : er = 0 → x = want) (h1 : er ≠ 0 → x = 0) :
    Calls Try.prog 24 #[.int .i64 x, .int .i64 er, .int .i64 er, .int .i64 want] w fun e w' => e = .returned (.bool true) ∧ w' = w := by
  have hee : (er == er) = true := by simp
  by_cases h : er = 0
  · subst h
    obtain rfl : x = want := h0 rfl
    have hxx : (x == x) = true := by simp
    go_enter Try.func24, Try.ntmps24
    go_wp2_with fail
    go_ret
    exact ⟨rfl, rfl⟩
  · obtain rfl : x = 0 := h1 h
    have hne : (er != 0) = true := by simpa using h
    go_enter Try.func24, Try.ntmps24
    go_wp2_with fail
    go_ret
    exact ⟨rfl, rfl⟩
end Go.Proofs.Ytdgcfakbmhchdaa
