/-
  Promise D2: the walk of holds.
-/
import Derived.Test.YtjokgohnpnhhdaaHBest
namespace Go.Proofs.Ytjokgohnpnhhdaa
open Go.RowKit

set_option maxRecDepth 100000 in
set_option maxHeartbeats 400000 in
theorem holds_any (a : Option Addr) (n cap : Nat) (l : List Rw) (d s : Int) (w : World) (hc : CameR w a l) (hn : l.length = n) (hm : n ≤ 50) :
    Calls Try.prog 20 #[.slice a n cap, .int .i64 d, .int .i64 s] w fun e w' => e = .returned (.agg #[.int .i64 (atV (best l d s n)), .bool (atS (best l d s n))]) ∧ Below w.heap.size w w' := by
  have HO := Lib.hid (fun h0 => hc.open hn h0)
  clear hc
  have HW0 := Lib.hid (((Below.refl w.heap.size w).alloc (Nat.le_refl _) (.cells #[.int .i64 0, .bool false] 47)).alloc (by simp) (.cells #[.int .i64 (-1), .int .i64 0, .int .i64 0, .bool true] 24))
  have HX0 := Lib.hid ((HBox.made w (.int .i64 0) (.bool false) 47).alloc (.cells #[.int .i64 (-1), .int .i64 0, .int .i64 0, .bool true] 24))
  have HR0 := Lib.hid (RBox.made (w.alloc (.cells #[.int .i64 0, .bool false] 47)) (-1) 0 0 true 24)
  rw [show (w.alloc (.cells #[.int .i64 0, .bool false] 47)).heap.size = w.heap.size + 1 from by simp] at HR0
  go_enter Try.func20, Try.ntmps20
  go_wp2_with fail
  go_loopw [13] (fun i wr => ∃ k : Nat, k ≤ n ∧ i = .int .i64 k ∧ RBox wr (w.heap.size + 1) (best l d s k) ∧ HBox wr w.heap.size ∧ Below w.heap.size w wr) (fun i _ => n - (intOf i).toNat)
  case atStart => exact ⟨0, Nat.zero_le _, rfl, HR0.out, HX0.out, HW0.out⟩
  case round =>
    clear HR0 HX0 HW0
    obtain ⟨k, hk, rfl, hbx, hhx, hb⟩ := hrel
    have HBX := Lib.hid hbx
    have HHX := Lib.hid hhx
    have HB := Lib.hid hb
    have hlt1 := hbx.lt
    clear hbx hhx hb
    by_cases hlt : k < n
    · have hlt' : (k : Int) < (n : Int) := by omega
      obtain ⟨b, off, rfl, hcell⟩ := HO.out (by omega)
      obtain ⟨x0, x1, x2, x3⟩ := hcell wr HB.out k hlt
      clear hcell
      obtain ⟨⟨y0, y1, y2, y3⟩, z0, z1, z2, z3⟩ := HBX.out
      simp only [Nat.zero_add] at y1 y2 y3
      have HYES := Lib.hid (fun h1 h2 h3 => best_yes (l := l) (d := d) (s := s) (k := k) h1 h2 h3)
      have HNO := Lib.hid (fun h => best_no (l := l) (d := d) (s := s) (k := k) h)
      generalize best l d s k = r at *
      generalize rnth l k = q at *
      obtain ⟨f, e, v, g⟩ := q
      simp only at x0 x1 x2 x3 HYES HNO
      have HBA := Lib.hid (HB.out.alloc HB.out.size (.cells #[.int .i64 f, .int .i64 e, .int .i64 v, .bool g] 24))
      have HXA := Lib.hid (HHX.out.alloc (.cells #[.int .i64 f, .int .i64 e, .int .i64 v, .bool g] 24))
      have HRA := Lib.hid (HBX.out.alloc (.cells #[.int .i64 f, .int .i64 e, .int .i64 v, .bool g] 24))
      by_cases h1 : e ≤ s
      · by_cases h2 : f ≤ d
        · by_cases h3 : r.frm ≤ f
          · have HR := Lib.hid (HYES.out h1 h2 h3)
            clear HYES HNO
            have HS := Lib.hid ((HBX.out.set f e v g).alloc (.cells #[.int .i64 f, .int .i64 e, .int .i64 v, .bool g] 24))
            have HXS := Lib.hid (((((HHX.out.other (p := ⟨w.heap.size + 1, 0, none⟩) (by simp) (.int .i64 f)).other (p := ⟨w.heap.size + 1, 1, none⟩) (by simp) (.int .i64 e)).other (p := ⟨w.heap.size + 1, 2, none⟩) (by simp) (.int .i64 v)).other (p := ⟨w.heap.size + 1, 3, none⟩) (by simp) (.bool g)).alloc (.cells #[.int .i64 f, .int .i64 e, .int .i64 v, .bool g] 24))
            have hbs := (((HB.out.setCell (p := ⟨w.heap.size + 1, 0, none⟩) (by simp) (.int .i64 f)).setCell (p := ⟨w.heap.size + 1, 1, none⟩) (by simp) (.int .i64 e)).setCell (p := ⟨w.heap.size + 1, 2, none⟩) (by simp) (.int .i64 v)).setCell (p := ⟨w.heap.size + 1, 3, none⟩) (by simp) (.bool g)
            have HBS := Lib.hid (hbs.alloc hbs.size (.cells #[.int .i64 f, .int .i64 e, .int .i64 v, .bool g] 24))
            clear hbs
            go_wp2_with fail
            go_roundw
            case rel => exact ⟨k + 1, by omega, by go_num, by rw [HR.out]; exact HS.out, HXS.out, HBS.out⟩
            case measure => simp [intOf]; omega
          · have HR := Lib.hid (HNO.out (fun h => h3 h.2.2))
            clear HYES HNO
            have h3B : decide (r.frm ≤ f) = false := decide_eq_false h3
            go_wp2_with fail
            go_roundw
            case rel => exact ⟨k + 1, by omega, by go_num, by rw [HR.out]; exact HRA.out, HXA.out, HBA.out⟩
            case measure => simp [intOf]; omega
        · have HR := Lib.hid (HNO.out (fun h => h2 h.2.1))
          clear HYES HNO
          have h2B : decide (f ≤ d) = false := decide_eq_false h2
          go_wp2_with fail
          go_roundw
          case rel => exact ⟨k + 1, by omega, by go_num, by rw [HR.out]; exact HRA.out, HXA.out, HBA.out⟩
          case measure => simp [intOf]; omega
      · have HR := Lib.hid (HNO.out (fun h => h1 h.1))
        clear HYES HNO
        have h1B : decide (e ≤ s) = false := decide_eq_false h1
        go_wp2_with fail
        go_roundw
        case rel => exact ⟨k + 1, by omega, by go_num, by rw [HR.out]; exact HRA.out, HXA.out, HBA.out⟩
        case measure => simp [intOf]; omega
    · have hkn : k = n := by omega
      subst hkn
      obtain ⟨⟨y0, y1, y2, y3⟩, z0, z1, z2, z3⟩ := HBX.out
      simp only [Nat.zero_add] at y1 y2 y3
      obtain ⟨⟨u0, p0⟩, ⟨u1, p1⟩, q0, q1⟩ := HHX.out
      generalize hbest : best l d s k = r at *
      have HE := Lib.hid hbest
      clear hbest
      obtain ⟨f, e, v, g⟩ := r
      simp only at y0 y1 y2 y3
      cases g
      · obtain ⟨t0, t1⟩ := HHX.out.put (.int .i64 v) (.bool true)
        have HBS := Lib.hid ((HB.out.setCell (p := ⟨w.heap.size, 0, none⟩) (Nat.le_refl _) (.int .i64 v)).setCell (p := ⟨w.heap.size, 1, none⟩) (Nat.le_refl _) (.bool true))
        go_wp2_with fail
        refine bodyPost_ret (v := .agg #[.int .i64 v, .bool true]) (by simp [results, Try.results20, go_sem, t0, t1] <;> rfl) rfl ⟨?_, HBS.out⟩
        rw [HE.out]
        rfl
      · obtain ⟨t0, t1⟩ := HHX.out.put (.int .i64 0) (.bool false)
        have HBS := Lib.hid ((HB.out.setCell (p := ⟨w.heap.size, 0, none⟩) (Nat.le_refl _) (.int .i64 0)).setCell (p := ⟨w.heap.size, 1, none⟩) (Nat.le_refl _) (.bool false))
        go_wp2_with fail
        refine bodyPost_ret (v := .agg #[.int .i64 0, .bool false]) (by simp [results, Try.results20, go_sem, t0, t1] <;> rfl) rfl ⟨?_, HBS.out⟩
        rw [HE.out]
        rfl

/-- What is wrong with a history and days. -/
def dayE (l : List Rw) (q : List Int) : Int := if histE l ≠ 0 then histE l else if q.all dayB = true then 0 else 3
theorem dayE_bad {l : List Rw} (q : List Int) (h : histE l ≠ 0) : dayE l q = histE l := if_pos h
theorem dayE_ok {l : List Rw} {q : List Int} (h : dayE l q = 0) : histE l = 0 ∧ q.all dayB = true := by
  unfold dayE at h
  split at h
  · contradiction
  · split at h
    · rename_i h1 h2
      exact ⟨by simpa using h1, h2⟩
    · cases h
theorem all_nth {P : Int → Bool} {l : List Int} (h : ∀ j, j < l.length → P (nth l j) = true) : l.all P = true := by
  rw [List.all_eq_true]
  intro x hx
  obtain ⟨j, hj, rfl⟩ := List.mem_iff_getElem.1 hx
  have := h j hj
  simpa [nth, List.getD_eq_getElem?_getD, hj] using this
theorem not_all_nth {P : Int → Bool} {l : List Int} {j : Nat} (hj : j < l.length) (h : P (nth l j) = false) : l.all P = false := by
  rw [Bool.eq_false_iff]
  intro e
  have : nth l j ∈ l := by
    unfold nth
    rw [List.getD_eq_getElem?_getD, List.getElem?_eq_getElem hj]
    exact List.getElem_mem hj
  rw [List.all_eq_true.1 e _ this] at h
  cases h

set_option maxRecDepth 100000 in
set_option maxHeartbeats 1000000 in
theorem checkDays_any (a : Option Addr) (n cap : Nat) (l : List Rw) (b2 m c2 : Nat) (q : List Int) (w : World) (hc : CameR w a l) (hn : l.length = n) (hm : n ≤ maxLen)
    (hb2 : b2 < w.heap.size) (hc2 : ∀ k, k < m → w.cell? ⟨b2, k, none⟩ = some (.int .i64 (nth q k))) (hq : q.length = m) (hm2 : m ≤ 60) :
    Calls Try.prog 19 #[.slice a n cap, .slice (some ⟨b2, 0, none⟩) m c2] w fun e w' => e = .returned (.int .i64 (dayE l q)) ∧ Below w.heap.size w w' := by
  have HK := Lib.hid (Check_any a n cap l w hc hn hm)
  have HC2 := Lib.hid hc2
  have hbd := histE_bd l
  clear hc hc2
  go_enter Try.func19, Try.ntmps19
  go_wp2_with fail
  refine HK.out.mono ?_
  rintro e w1 ⟨rfl, hb1⟩
  have HB1 := Lib.hid hb1
  clear hb1 HK
  by_cases hz : histE l = 0
  · have HE0 : Hid (dayE l q = if q.all dayB = true then 0 else 3) := by unfold Hid dayE; rw [if_neg (by simp [hz])]
    clear hbd
    go_wp2_with fail
    go_loop [15] (fun i => ∃ k : Nat, k ≤ m ∧ i = .int .i64 k ∧ ∀ j, j < k → dayB (nth q j) = true) (fun i => m - (intOf i).toNat)
    case atStart => exact ⟨0, Nat.zero_le _, rfl, fun j hj => by omega⟩
    case round =>
      obtain ⟨k, hk, rfl, hall⟩ := hrel
      have HA := Lib.hid hall
      clear hall
      by_cases hlt : k < m
      · have hlt' : (k : Int) < (m : Int) := by omega
        have x1 : w1.cell? ⟨b2, k, none⟩ = some (.int .i64 (nth q k)) := (HB1.out.cell (p := ⟨b2, k, none⟩) hb2).trans (HC2.out k hlt)
        cases hr : dayB (nth q k)
        · have HE : Hid (dayE l q = 3) := by unfold Hid; rw [HE0.out, if_neg (by rw [not_all_nth (l := q) (j := k) (by omega) hr]; simp)]
          go_wp2_with (go_at_call 24; refine (isDay_any _ _).mono ?_; rintro e w' ⟨rfl, h'⟩; subst w')
          go_ret
          exact ⟨cret_int HE.out.symm, HB1.out⟩
        · go_wp2_with (go_at_call 24; refine (isDay_any _ _).mono ?_; rintro e w' ⟨rfl, h'⟩; subst w')
          go_round
          case rel =>
            refine ⟨k + 1, by omega, by go_num, ?_⟩
            intro j hj
            by_cases e : j = k
            · subst e; exact hr
            · exact HA.out j (by omega)
          case measure => simp [intOf]; omega
      · have HE : Hid (dayE l q = 0) := by unfold Hid; rw [HE0.out, if_pos (all_nth (l := q) (P := dayB) (fun j hj => HA.out j (by omega)))]
        go_wp2_with fail
        go_ret
        exact ⟨cret_int HE.out.symm, HB1.out⟩
  · have HE := Lib.hid (dayE_bad q hz)
    have hzB : decide (histE l = 0) = false := decide_eq_false hz
    go_wp2_with fail
    go_ret
    exact ⟨cret_int HE.out.symm, HB1.out⟩
theorem two_cells (w : World) (d e : Int) : ∀ k, k < 2 → (w.alloc (.cells #[.int .i64 d, .int .i64 e] 3)).cell? ⟨w.heap.size, k, none⟩ = some (.int .i64 (nth [d, e] k)) := by
  intro k hk
  have : k = 0 ∨ k = 1 := by omega
  rcases this with rfl | rfl
  · simp [nth]
  · simp [nth]

/-- What At answers. -/
def AtIs (l : List Rw) (d s v : Int) (b : Bool) (e : Int) : Prop := (dayE l [d, s] ≠ 0 ∧ v = 0 ∧ b = false ∧ e = dayE l [d, s]) ∨ (dayE l [d, s] = 0 ∧ v = atV (best l d s l.length) ∧ b = atS (best l d s l.length) ∧ e = 0)
theorem AtIs.unique {l : List Rw} {d s v e v' e' : Int} {b b' : Bool} (h : AtIs l d s v b e) (h' : AtIs l d s v' b' e') : v = v' ∧ b = b' ∧ e = e' := by
  rcases h with ⟨a1, a2, a3, a4⟩ | ⟨a1, a2, a3, a4⟩ <;> rcases h' with ⟨b1, b2, b3, b4⟩ | ⟨b1, b2, b3, b4⟩
  · exact ⟨by omega, by rw [a3, b3], by omega⟩
  · exact absurd b1 a1
  · exact absurd a1 b1
  · exact ⟨by omega, by rw [a3, b3], by omega⟩

set_option maxRecDepth 100000 in
set_option maxHeartbeats 1000000 in
theorem At_any (a : Option Addr) (n cap : Nat) (l : List Rw) (d s : Int) (w : World) (hc : CameR w a l) (hn : l.length = n) (hm : n ≤ maxLen) :
    Calls Try.prog 15 #[.slice a n cap, .int .i64 d, .int .i64 s] w fun e w' => ∃ (v : Int) (b : Bool) (er : Int), e = .returned (.tuple #[.int .i64 v, .bool b, .int .i64 er]) ∧ AtIs l d s v b er ∧ Below w.heap.size w w' := by
  have hb0 := (Below.refl w.heap.size w).alloc (Nat.le_refl _) (.cells #[.int .i64 d, .int .i64 s] 3)
  have HK := Lib.hid (checkDays_any a n cap l w.heap.size 2 2 [d, s] _ (hc.below hb0) hn hm (by simp) (two_cells w d s) rfl (by omega))
  have HB0 := Lib.hid hb0
  have HC := Lib.hid hc
  have HN := Lib.hid hn
  clear hc hb0 hn
  go_enter Try.func15, Try.ntmps15
  go_wp2_with fail
  refine HK.out.mono ?_
  rintro e w1 ⟨rfl, hb1⟩
  have HB1 := Lib.hid (HB0.out.trans (hb1.mono HB0.out.size))
  clear hb1 HK
  by_cases hz : dayE l [d, s] = 0
  · have hok := histE_ok (dayE_ok hz).1
    have HH := Lib.hid (holds_any a n cap l d s w1 (HC.out.below HB1.out) HN.out (by have := HN.out; omega))
    have HA : Hid (AtIs l d s (atV (best l d s n)) (atS (best l d s n)) 0) := .inr ⟨hz, by rw [HN.out], by rw [HN.out], rfl⟩
    clear hok
    generalize atV (best l d s n) = v at *
    generalize atS (best l d s n) = b at *
    go_wp2_with fail
    refine HH.out.mono ?_
    rintro e w2 ⟨rfl, hb2⟩
    have HB2 := Lib.hid (HB1.out.trans (hb2.mono HB1.out.size))
    clear hb2 HH
    go_wp2_with fail
    go_quiet (fail)
    go_wp2_with fail
    refine bodyPost_ret (v := .tuple #[.int .i64 v, .bool b, .int .i64 0]) (by simp [results, Try.results15, go_sem] <;> rfl) rfl ⟨v, b, 0, rfl, HA.out, below_dN (HB2.out.alloc HB2.out.size _) _⟩
  · have hzB : decide (dayE l [d, s] = 0) = false := decide_eq_false hz
    have HA : Hid (AtIs l d s 0 false (dayE l [d, s])) := .inl ⟨hz, rfl, rfl, rfl⟩
    go_wp2_with fail
    refine bodyPost_ret (v := .tuple #[.int .i64 0, .bool false, .int .i64 (dayE l [d, s])]) (by simp [results, Try.results15, go_sem] <;> rfl) rfl ⟨0, false, _, rfl, HA.out, HB1.out⟩
end Go.Proofs.Ytjokgohnpnhhdaa
