/-
  Promise D2: walks of the reference's Holds and HistoryAt, and of the law's seenAt and numberIs.
-/
import Derived.Test.YtjokgohnpnhhdaaHAt
namespace Go.Proofs.Ytjokgohnpnhhdaa
open Go.RowKit

/-- The place of the row that holds, of the first k; -1: none does. -/
def PlaceIs (l : List Rw) (d s : Int) (k : Nat) (i : Int) : Prop := (i = -1 ∧ best l d s k = ⟨-1, 0, 0, true⟩) ∨ ∃ j : Nat, i = (j : Int) ∧ j < k ∧ best l d s k = rnth l j
theorem rowB_frm {r : Rw} (h : rowB r = true) : 0 ≤ r.frm := by
  unfold rowB at h
  simp only [Bool.and_eq_true] at h
  exact (dayB_iff.1 h.1.1.1).1
theorem PlaceIs.skip {l : List Rw} {d s : Int} {k : Nat} {i : Int} (h : PlaceIs l d s k i) (hn : ¬ ((rnth l k).seen ≤ s ∧ (rnth l k).frm ≤ d ∧ (best l d s k).frm ≤ (rnth l k).frm)) : PlaceIs l d s (k + 1) i := by
  unfold PlaceIs
  rw [best_no hn]
  rcases h with h | ⟨j, h1, h2, h3⟩
  · exact .inl h
  · exact .inr ⟨j, h1, by omega, h3⟩
theorem PlaceIs.take {l : List Rw} {d s : Int} {k : Nat} (h1 : (rnth l k).seen ≤ s) (h2 : (rnth l k).frm ≤ d) (h3 : (best l d s k).frm ≤ (rnth l k).frm) : PlaceIs l d s (k + 1) (k : Int) := by
  unfold PlaceIs
  rw [best_yes h1 h2 h3]
  exact .inr ⟨k, rfl, by omega, rfl⟩

set_option maxRecDepth 100000 in
set_option maxHeartbeats 1000000 in
theorem holds_ref (a : Option Addr) (n cap : Nat) (l : List Rw) (d s : Int) (w : World) (hc : CameR w a l) (hn : l.length = n) (hm : n ≤ 50) (hok : rowsB l = true) :
    Calls Try.prog 25 #[.slice a n cap, .int .i64 d, .int .i64 s] w fun e w' => ∃ i : Int, e = .returned (.int .i64 i) ∧ PlaceIs l d s n i ∧ Below w.heap.size w w' := by
  have HO := Lib.hid (fun h0 => hc.open hn h0)
  have HF : Hid (∀ k, k < n → 0 ≤ (rnth l k).frm) := fun k hk => rowB_frm (rowsB_nth hok (by omega))
  clear hc hok
  go_enter Try.func25, Try.ntmps25
  go_wp2_with fail
  go_loopw [7, 8] (fun b i wr => ∃ (k : Nat) (p : Int), k ≤ n ∧ i = .int .i64 k ∧ b = .int .i64 p ∧ PlaceIs l d s k p ∧ Below w.heap.size w wr) (fun _ i _ => n - (intOf i).toNat)
  case atStart => exact ⟨0, -1, Nat.zero_le _, rfl, rfl, .inl ⟨rfl, rfl⟩, Below.refl _ _⟩
  case round =>
    obtain ⟨k, p, hk, rfl, rfl, hp, hb⟩ := hrel
    have HP := Lib.hid hp
    have HB := Lib.hid hb
    clear hb
    by_cases hlt : k < n
    · have hlt' : (k : Int) < (n : Int) := by omega
      obtain ⟨b, off, rfl, hcell⟩ := HO.out (by omega)
      obtain ⟨x0, x1, x2, x3⟩ := hcell wr HB.out k hlt
      by_cases h1 : (rnth l k).seen ≤ s
      · have h1B : decide (s < (rnth l k).seen) = false := decide_eq_false (by omega)
        by_cases h2 : (rnth l k).frm ≤ d
        · have h2B : decide (d < (rnth l k).frm) = false := decide_eq_false (by omega)
          rcases hp with ⟨rfl, hb0⟩ | ⟨j, rfl, hj, hbj⟩
          · have HT := Lib.hid (PlaceIs.take (l := l) (d := d) (s := s) (k := k) h1 h2 (by rw [hb0]; have := HF.out k hlt; simp; omega))
            clear hcell hb0
            go_wp2_with fail
            go_quiet (fail)
            go_wp2_with fail
            go_roundw
            case rel => exact ⟨k + 1, _, by omega, by go_num, rfl, HT.out, below_dN HB.out _⟩
            case measure => simp [intOf]; omega
          · obtain ⟨y0, _, _, _⟩ := hcell wr HB.out j (by omega)
            have hj' : (j : Int) < (n : Int) := by omega
            by_cases h3 : (rnth l j).frm ≤ (rnth l k).frm
            · have HT := Lib.hid (PlaceIs.take (l := l) (d := d) (s := s) (k := k) h1 h2 (by rw [hbj]; exact h3))
              clear hcell hbj
              go_wp2_with fail
              go_quiet (fail)
              go_wp2_with fail
              go_roundw
              case rel => exact ⟨k + 1, _, by omega, by go_num, rfl, HT.out, below_dN HB.out _⟩
              case measure => simp [intOf]; omega
            · have HT := Lib.hid (HP.out.skip (fun h => h3 (by rw [← hbj]; exact h.2.2)))
              have h3B : decide ((rnth l j).frm ≤ (rnth l k).frm) = false := decide_eq_false h3
              clear hcell hbj
              go_wp2_with fail
              go_quiet (fail)
              go_wp2_with fail
              go_roundw
              case rel => exact ⟨k + 1, _, by omega, by go_num, rfl, HT.out, below_dN HB.out _⟩
              case measure => simp [intOf]; omega
        · have HT := Lib.hid (HP.out.skip (fun h => h2 h.2.1))
          have h2' : d < (rnth l k).frm := by omega
          clear hcell hp
          go_wp2_with fail
          go_roundw
          case rel => exact ⟨k + 1, _, by omega, by go_num, rfl, HT.out, HB.out⟩
          case measure => simp [intOf]; omega
      · have HT := Lib.hid (HP.out.skip (fun h => h1 h.1))
        have h1' : s < (rnth l k).seen := by omega
        clear hcell hp
        go_wp2_with fail
        go_roundw
        case rel => exact ⟨k + 1, _, by omega, by go_num, rfl, HT.out, HB.out⟩
        case measure => simp [intOf]; omega
    · have hkn : k = n := by omega
      subst hkn
      clear hp
      go_wp2_with fail
      go_ret
      exact ⟨_, rfl, HP.out, HB.out⟩

set_option maxRecDepth 100000 in
set_option maxHeartbeats 1000000 in
theorem at_ref (a : Option Addr) (n cap : Nat) (l : List Rw) (d s : Int) (w : World) (hc : CameR w a l) (hn : l.length = n) (hm : n ≤ 50) (hok : rowsB l = true) :
    Calls Try.prog 22 #[.slice a n cap, .int .i64 d, .int .i64 s] w fun e w' => e = .returned (.tuple #[.int .i64 (atV (best l d s n)), .bool (atS (best l d s n))]) ∧ Below w.heap.size w w' := by
  have HO := Lib.hid (fun h0 => hc.open hn h0)
  have HH := Lib.hid (holds_ref a n cap l d s w hc hn hm hok)
  clear hc hok
  go_enter Try.func22, Try.ntmps22
  go_wp2_with fail
  refine HH.out.mono ?_
  rintro e w1 ⟨i, rfl, hp, hb⟩
  have HB := Lib.hid hb
  clear hb HH
  rcases hp with ⟨rfl, hb0⟩ | ⟨j, rfl, hj, hbj⟩
  · have HE := Lib.hid hb0
    clear hb0
    go_wp2_with fail
    refine bodyPost_ret (v := .tuple #[.int .i64 0, .bool false]) (by simp [results, Try.results22, go_sem] <;> rfl) rfl ⟨?_, HB.out⟩
    rw [HE.out]
    rfl
  · have HE := Lib.hid hbj
    have hj' : (j : Int) < (n : Int) := by omega
    obtain ⟨b, off, rfl, hcell⟩ := HO.out (by omega)
    obtain ⟨_, _, x2, x3⟩ := hcell w1 HB.out j hj
    clear hcell hbj
    generalize rnth l j = q at *
    obtain ⟨f, e, v, g⟩ := q
    simp only at x2 x3
    cases g
    · go_wp2_with fail
      refine bodyPost_ret (v := .tuple #[.int .i64 v, .bool true]) (by simp [results, Try.results22, go_sem] <;> rfl) rfl ⟨?_, HB.out⟩
      rw [HE.out]
      rfl
    · go_wp2_with fail
      refine bodyPost_ret (v := .tuple #[.int .i64 0, .bool false]) (by simp [results, Try.results22, go_sem] <;> rfl) rfl ⟨?_, HB.out⟩
      rw [HE.out]
      rfl

/-- The law's own look at days. -/
def dayK (l : List Rw) (q : List Int) (k : Nat) : Int := if histE l ≠ 0 then histE l else if (q.take k).all dayB = true then 0 else 3
theorem take_all {q : List Int} {k : Nat} (hk : k < q.length) : (q.take (k + 1)).all dayB = ((q.take k).all dayB && dayB (nth q k)) := by
  rw [List.take_add_one, List.getElem?_eq_getElem hk]
  have : nth q k = q[k] := by simp [nth, List.getD_eq_getElem?_getD, hk]
  rw [this]
  simp only [Option.toList_some, List.all_append, List.all_cons, List.all_nil, Bool.and_true]
set_option maxRecDepth 100000 in
set_option maxHeartbeats 1000000 in
theorem seenAt_any (a : Option Addr) (n cap : Nat) (l : List Rw) (b2 m c2 : Nat) (q : List Int) (w : World) (hc : CameR w a l) (hn : l.length = n) (hm : n ≤ maxLen)
    (hb2 : b2 < w.heap.size) (hc2 : ∀ k, k < m → w.cell? ⟨b2, k, none⟩ = some (.int .i64 (nth q k))) (hq : q.length = m) (hm2 : m ≤ 60) :
    Calls Try.prog 11 #[.slice a n cap, .slice (some ⟨b2, 0, none⟩) m c2] w fun e w' => e = .returned (.int .i64 (dayE l q)) ∧ Below w.heap.size w w' := by
  have HK := Lib.hid (check_ref a n cap l w hc hn hm)
  have HC2 := Lib.hid hc2
  have hbd := histE_bd l
  have HEND : Hid (dayK l q m = dayE l q) := by unfold Hid dayK dayE; rw [← hq, List.take_length]
  have H0 : Hid (dayK l q 0 = histE l) := by unfold Hid dayK; by_cases h : histE l = 0 <;> simp [h]
  have HZ : Hid (∀ k, dayK l q k ≠ 0 → ∀ k', k ≤ k' → k' ≤ m → dayK l q k' = dayK l q k) := fun k h k' h1 h2 => by
    unfold dayK at h ⊢
    by_cases hz : histE l = 0
    · simp [hz] at h ⊢
      obtain ⟨x, hx, hd⟩ := h
      have hx' : x ∈ q.take k' := by
        have : q.take k = (q.take k').take k := by rw [List.take_take]; congr 1; omega
        rw [this] at hx
        exact List.mem_of_mem_take hx
      rw [if_neg (fun hall => by rw [hall x hx'] at hd; cases hd), if_neg (fun hall => by rw [hall x hx] at hd; cases hd)]
    · simp [hz]
  have HS : Hid (∀ k, k < m → dayK l q k = 0 → dayK l q (k + 1) = if dayB (nth q k) = true then 0 else 3) := fun k hk h => by
    unfold dayK at h ⊢
    by_cases hz : histE l = 0
    · rw [if_neg (by simp [hz])] at h ⊢
      have h1 : (q.take k).all dayB = true := by
        by_cases e : (q.take k).all dayB = true
        · exact e
        · rw [if_neg e] at h; cases h
      rw [take_all (by omega), h1, Bool.true_and]
    · rw [if_pos hz] at h; exact absurd h hz
  clear hc hc2
  go_enter Try.func11, Try.ntmps11
  go_wp2_with fail
  refine HK.out.mono ?_
  rintro e w1 ⟨rfl, hb1⟩
  have HB1 := Lib.hid hb1
  clear hb1 HK
  rw [← H0.out]
  go_wp2_with fail
  go_loop [5, 6] (fun e i => ∃ k : Nat, k ≤ m ∧ i = .int .i64 k ∧ e = .int .i64 (dayK l q k)) (fun _ i => m - (intOf i).toNat)
  case atStart => exact ⟨0, Nat.zero_le _, rfl, rfl⟩
  case round =>
    obtain ⟨k, hk, rfl, rfl⟩ := hrel
    by_cases hlt : k < m
    · have hlt' : (k : Int) < (m : Int) := by omega
      have x1 : w1.cell? ⟨b2, k, none⟩ = some (.int .i64 (nth q k)) := (HB1.out.cell (p := ⟨b2, k, none⟩) hb2).trans (HC2.out k hlt)
      have HZk := Lib.hid (fun h => HZ.out k h (k + 1) (by omega) (by omega))
      have HSk := Lib.hid (fun h => HS.out k hlt h)
      generalize dayK l q k = c at *
      by_cases hz : c = 0
      · subst hz
        cases hr : dayB (nth q k)
        · have HE : Hid (dayK l q (k + 1) = 3) := by unfold Hid; rw [HSk.out rfl, hr]; rfl
          go_wp2_with (go_at_call 17; refine (isDay_ref _ _).mono ?_; rintro e w' ⟨rfl, h'⟩; subst w')
          go_round
          case rel => exact ⟨k + 1, by omega, by go_num, by rw [HE.out]⟩
          case measure => simp [intOf]; omega
        · have HE : Hid (dayK l q (k + 1) = 0) := by unfold Hid; rw [HSk.out rfl, hr]; rfl
          go_wp2_with (go_at_call 17; refine (isDay_ref _ _).mono ?_; rintro e w' ⟨rfl, h'⟩; subst w')
          go_round
          case rel => exact ⟨k + 1, by omega, by go_num, by rw [HE.out]⟩
          case measure => simp [intOf]; omega
      · have HE := Lib.hid (HZk.out hz)
        have hzB : decide (c = 0) = false := decide_eq_false hz
        go_wp2_with fail
        go_round
        case rel => exact ⟨k + 1, by omega, by go_num, by rw [HE.out]⟩
        case measure => simp [intOf]; omega
    · have hkm : k = m := by omega
      subst hkm
      go_wp2_with fail
      go_ret
      exact ⟨cret_int HEND.out, HB1.out⟩

end Go.Proofs.Ytjokgohnpnhhdaa
