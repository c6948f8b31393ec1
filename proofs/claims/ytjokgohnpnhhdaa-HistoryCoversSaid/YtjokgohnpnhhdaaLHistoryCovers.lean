/-
  The walk of the law HistoryCovers: it answers true at every list of rows and all ints.
-/
import Derived.Test.YtjokgohnpnhhdaaHBegun
import Derived.Test.YtjokgohnpnhhdaaHStrW
import Derived.Test.YtjokgohnpnhhdaaHChoose
import Derived.OpenShut
namespace Go.Proofs.Ytjokgohnpnhhdaa
open Go.RowKit

theorem at_day {l : List Rw} {f t s : Int} (h : dayE l [f, t, s] = 0) (x : Int) (h0 : f ≤ x) (h1 : x ≤ t) {v er : Int} {b : Bool} (ha : AtIs l x s v b er) : er = 0 ∧ (v, b) = hvD l s x := by
  obtain ⟨hh, f0, f1, t0, t1, s0, s1⟩ := dayE3 h
  have hd : dayE l [x, s] = 0 := by
    unfold dayE
    rw [if_neg (by simp [hh])]
    have a1 : dayB x = true := dayB_iff.2 ⟨by omega, by omega⟩
    have a2 : dayB s = true := dayB_iff.2 ⟨s0, s1⟩
    simp [a1, a2]
  rcases ha with ⟨h2, _⟩ | ⟨_, h2, h3, h4⟩
  · exact absurd hd h2
  · exact ⟨h4, by rw [h2, h3]; rfl⟩
/-- Days of the stretches lie within. -/
theorem Str.within {V : Int → Int × Bool} {f d : Int} {L : List Rw} (h : Str V f L d) : ∀ i, i ≤ L.length → f ≤ endOf f L i ∧ endOf f L i ≤ d := by
  have up : ∀ i, i ≤ L.length → f ≤ endOf f L i := by
    intro i
    induction i with
    | zero => intro _; exact Int.le_refl _
    | succ k ih =>
      intro hk
      have h1 := h.1 k (by omega)
      have h2 := ih (by omega)
      show f ≤ (rnth L k).seen + 1
      omega
  have dn : ∀ m i, i + m = L.length → endOf f L i ≤ d := by
    intro m
    induction m with
    | zero => intro i hi; obtain rfl : i = L.length := by omega
              exact Int.le_of_eq h.2
    | succ m ih =>
      intro i hi
      have h1 := h.1 i (by omega)
      have h2 := ih (i + 1) (by omega)
      have h3 : endOf f L (i + 1) = (rnth L i).seen + 1 := rfl
      omega
  exact fun i hi => ⟨up i hi, dn (L.length - i) i (by omega)⟩

set_option maxRecDepth 100000 in
set_option maxHeartbeats 1000000 in
theorem walk_historyCovers (w : World) (a : Option Addr) (n cap : Nat) (l : List Rw) (hc : CameR w a l) (hn : l.length = n) (hm : n ≤ maxLen) (_ : ∀ r ∈ l, RowWf r) (f : Int) (_ : (Lit.int .i64 f).wf = true) (t : Int) (_ : (Lit.int .i64 t).wf = true) (s : Int) (_ : (Lit.int .i64 s).wf = true) (dy : Int) (hdy : (Lit.int .i64 dy).wf = true) :
    Calls Try.prog 5 #[.slice a n cap, .int .i64 f, .int .i64 t, .int .i64 s, .int .i64 dy] w fun e w' => e = .returned (.bool true) ∧ Below w.heap.size w w' := by
  have HC := Lib.hid hc
  have HN := Lib.hid hn
  have HM := Lib.hid hm
  have HDY := Lib.hid (bounds_i64 hdy)
  clear hc hn hm
  go_enter Try.func5, Try.ntmps5
  go_wp2_with fail
  refine (begun_any _).mono ?_
  rintro e w1 ⟨rfl, hb1⟩
  have HB1 := Lib.hid hb1
  clear hb1
  go_wp2_with fail
  refine (Stretches_any a n cap l f t s w1 (HC.out.below HB1.out) HN.out HM.out).mono ?_
  rintro e w2 ⟨v, er, rfl, hp, hb2⟩
  have HB2 := Lib.hid (HB1.out.trans (hb2.mono HB1.out.size))
  clear hb2
  rcases hp with ⟨hz, rfl, rfl⟩ | ⟨hz, hft, rfl, rfl⟩ | ⟨hz, hft, rfl, L, hg, hst⟩
  · have hzB : decide (dayE l [f, t, s] = 0) = false := decide_eq_false hz
    go_wp2_with fail
    go_ret
    exact ⟨rfl, HB2.out⟩
  · go_wp2_with fail
    go_ret
    exact ⟨rfl, HB2.out⟩
  · obtain ⟨g, c, rfl, hrt⟩ : ∃ g c, v = .slice (some ⟨g, 0, none⟩) L.length c ∧ RAt w2 g 0 L := by
      rcases hg.form with ⟨_, h2⟩ | ⟨g, c, h1, _, h3⟩
      · subst h2
        have e : f = t + 1 := hst.2
        omega
      · exact ⟨g, c, h1, h3⟩
    have HRT := Lib.hid hrt
    have HST := Lib.hid hst
    have HZ := Lib.hid hz
    obtain ⟨_, f0, f1, t0, t1, s0, s1⟩ := dayE3 hz
    have hlen : (L.length : Int) ≤ 73049 := by have := Str.len _ _ _ rfl hst; omega
    obtain ⟨cb0, cb1⟩ := choose_bd dy (t - f + 1) (by omega)
    clear hg hst hrt hz
    go_wp2_with fail
    refine (choose_any dy (t - f + 1) w2 HDY.out.1 HDY.out.2 (by omega) (by omega)).mono ?_
    rintro e w3 ⟨rfl, h3⟩
    subst w3
    generalize chooseI dy (t - f + 1) = y at *
    go_wp2_with fail
    go_loopw [13, 14] (fun nv iv wr => ∃ k : Nat, k ≤ L.length ∧ iv = .int .i64 k ∧ nv = .int .i64 (endOf f L k) ∧ RAt wr g 0 L ∧ Below w.heap.size w wr) (fun _ iv _ => L.length - (intOf iv).toNat)
    case atStart => exact ⟨0, Nat.zero_le _, rfl, rfl, HRT.out, HB2.out⟩
    case round =>
      clear HRT HB2
      obtain ⟨k, hk, rfl, rfl, hrt, hb⟩ := hrel
      have HRT := Lib.hid hrt
      have HB := Lib.hid hb
      clear hrt hb
      by_cases hlt : k < L.length
      · have hlt' : (k : Int) < (L.length : Int) := by omega
        obtain ⟨p0, p1, p2, p3⟩ := HRT.out.2 k hlt
        simp only [Nat.zero_add] at p0 p1 p2 p3
        obtain ⟨q1, q2, q3, q4⟩ := HST.out.1 k hlt
        have hw1 := HST.out.within k (by omega)
        have hw2 := HST.out.within (k + 1) (by omega)
        have HE : Hid (endOf f L (k + 1) = (rnth L k).seen + 1) := rfl
        rw [HE.out] at hw2
        rw [← q1] at hw1
        have HV := Lib.hid q3
        rw [← q1]
        by_cases hk0 : k = 0
        · subst hk0
          clear q1 q3 q4
          generalize hq : rnth L 0 = q at *
          have HQ := Lib.hid hq
          clear hq
          obtain ⟨qf, qs, qv, qb⟩ := q
          simp only at p0 p1 p2 p3 q2 hw1 hw2
          have d1 : decide (qs < qf) = false := decide_eq_false (by omega)
          have d2 : (qf != qf) = false := by simp
          have d3 : decide ((0 : Int) < 0) = false := rfl
          have hl0 : (0 : Int) < (L.length : Int) := hlt'
          go_wp2_with fail
          go_quiet (fail)
          have HB5 := Lib.hid (below_dN HB.out nq)
          have HRT5 : Hid (RAt (wr.drewN nq) g 0 L) := HRT.out
          have x0 : (wr.drewN nq).cell? ⟨g, 0 * 4, none⟩ = some (.int .i64 qf) := p0
          have x1 : (wr.drewN nq).cell? ⟨g, 0 * 4 + 1, none⟩ = some (.int .i64 qs) := p1
          have x2 : (wr.drewN nq).cell? ⟨g, 0 * 4 + 2, none⟩ = some (.int .i64 qv) := p2
          have x3 : (wr.drewN nq).cell? ⟨g, 0 * 4 + 3, none⟩ = some (.bool qb) := p3
          generalize wr.drewN nq = w5 at *
          clear HB HRT p0 p1 p2 p3
          try clear r0 r1 r2 r3
          have hgw : g < w5.heap.size := HRT5.out.1
          have hgne : g ≠ w5.heap.size := by omega
          go_wp2_with fail
          go_region_held3 (fun w' => w'.cell? ⟨g, 0 * 4, none⟩ = some (.int .i64 qf) ∧ w'.cell? ⟨g, 0 * 4 + 1, none⟩ = some (.int .i64 qs)) (first | go_keep | (trace_state; fail)) (fail)
          have HB6 : Hid (Below w.heap.size w (w5.alloc (.cells #[.int .i64 qf, .int .i64 qs, .int .i64 (f + y)] 41)).drew) := (HB5.out.alloc HB5.out.size _).drew
          have HRT6 : Hid (RAt (w5.alloc (.cells #[.int .i64 qf, .int .i64 qs, .int .i64 (f + y)] 41)).drew g 0 L) := RAt.below HRT5.out ((Below.refl w5.heap.size w5).alloc (Nat.le_refl _) _).drew hgw
          have HD6 : Hid (∀ j, j < 3 → (w5.alloc (.cells #[.int .i64 qf, .int .i64 qs, .int .i64 (f + y)] 41)).drew.cell? ⟨w5.heap.size, j, none⟩ = some (.int .i64 (nth [qf, qs, f + y] j))) := fun j hj => by
            have : j = 0 ∨ j = 1 ∨ j = 2 := by omega
            rcases this with rfl | rfl | rfl <;> simp [nth]
          have hbd6 : w5.heap.size < (w5.alloc (.cells #[.int .i64 qf, .int .i64 qs, .int .i64 (f + y)] 41)).drew.heap.size := by simp
          clear HB5 HRT5 x0 x1 x2 x3 hgw hgne
          generalize (w5.alloc (.cells #[.int .i64 qf, .int .i64 qs, .int .i64 (f + y)] 41)).drew = w6 at *
          generalize w5.heap.size = bd at *
          go_wp2_with fail
          go_loopw [16] (fun iv wq => ∃ kk : Nat, kk ≤ 3 ∧ iv = .int .i64 kk ∧ (∀ j, j < 3 → wq.cell? ⟨bd, j, none⟩ = some (.int .i64 (nth [qf, qs, f + y] j))) ∧ bd < wq.heap.size ∧ RAt wq g 0 L ∧ Below w.heap.size w wq) (fun iv _ => 3 - (intOf iv).toNat)
          case atStart => exact ⟨0, Nat.zero_le _, rfl, HD6.out, hbd6, HRT6.out, HB6.out⟩
          case round =>
            clear HD6 HRT6 HB6 hbd6
            obtain ⟨kk, hkk, rfl, hd7, hbd7, hrt7, hb7⟩ := hrel
            have HD7 := Lib.hid hd7
            have HRT7 := Lib.hid hrt7
            have HB7 := Lib.hid hb7
            clear hd7 hrt7 hb7
            by_cases hk3 : kk < 3
            · have hk3' : (kk : Int) < 3 := by omega
              have x7 := HD7.out kk hk3
              have hDD : f ≤ nth [qf, qs, f + y] kk ∧ nth [qf, qs, f + y] kk ≤ t := by
                have : kk = 0 ∨ kk = 1 ∨ kk = 2 := by omega
                rcases this with rfl | rfl | rfl <;> simp [nth] <;> omega
              generalize nth [qf, qs, f + y] kk = D at *
              obtain ⟨hD0, hD1⟩ := hDD
              go_wp2_with fail
              refine (At_any a n cap l D s wr (HC.out.below HB7.out) HN.out HM.out).mono ?_
              rintro e w8 ⟨v8, b8, er8, rfl, hA8, hb8⟩
              obtain ⟨rfl, hV8⟩ := at_day HZ.out D hD0 hD1 hA8
              have HB8 := Lib.hid (HB7.out.trans (hb8.mono HB7.out.size))
              have HRT8 := Lib.hid (HRT7.out.below hb8 HRT7.out.1)
              have HD8 : Hid (∀ j, j < 3 → w8.cell? ⟨bd, j, none⟩ = some (.int .i64 (nth [qf, qs, f + y] j))) := fun j hj => (hb8.cell (p := ⟨bd, j, none⟩) hbd7).trans (HD7.out j hj)
              have x8 := (hb8.cell (p := ⟨bd, kk, none⟩) hbd7).trans x7
              have hbd8 : bd < w8.heap.size := Nat.lt_of_lt_of_le hbd7 hb8.size
              have HV8 := Lib.hid hV8
              obtain ⟨p0, p1, p2, p3⟩ := HRT8.out.2 (0) hlt
              simp only [Nat.zero_add] at p0 p1 p2 p3
              rw [HQ.out] at p0 p1 p2 p3
              simp only at p0 p1 p2 p3
              clear hb8 hA8 hV8 x7 HB7 HRT7 HD7
              by_cases e1 : qf ≤ D
              · have e1B : decide (qf ≤ D) = true := decide_eq_true e1
                by_cases e2 : D ≤ qs
                · have e2B : decide (D ≤ qs) = true := decide_eq_true e2
                  obtain ⟨rfl, rfl⟩ : qv = v8 ∧ qb = b8 := by
                    have := (HV.out D e1 e2).symm.trans HV8.out.symm
                    exact ⟨congrArg Prod.fst this, congrArg Prod.snd this⟩
                  go_wp2_with fail
                  go_quiet (fail)
                  go_wp2_with fail
                  go_roundw
                  case rel => exact ⟨kk + 1, by omega, by go_num, HD8.out, hbd8, HRT8.out, below_dN HB8.out _⟩
                  case measure => simp [intOf]; omega
                · have e2B : decide (D ≤ qs) = false := decide_eq_false e2
                  go_wp2_with fail
                  go_quiet (fail)
                  go_wp2_with fail
                  go_roundw
                  case rel => exact ⟨kk + 1, by omega, by go_num, HD8.out, hbd8, HRT8.out, below_dN HB8.out _⟩
                  case measure => simp [intOf]; omega
              · have e1B : decide (qf ≤ D) = false := decide_eq_false e1
                go_wp2_with fail
                go_quiet (fail)
                go_wp2_with fail
                go_roundw
                case rel => exact ⟨kk + 1, by omega, by go_num, HD8.out, hbd8, HRT8.out, below_dN HB8.out _⟩
                case measure => simp [intOf]; omega
            · obtain rfl : kk = 3 := by omega
              obtain ⟨p0, p1, p2, p3⟩ := HRT7.out.2 (0) hlt
              simp only [Nat.zero_add] at p0 p1 p2 p3
              rw [HQ.out] at p0 p1 p2 p3
              simp only at p0 p1 p2 p3
              go_wp2_with fail
              go_roundw
              case rel => exact ⟨0 + 1, by omega, by go_num, by rw [HE.out], HRT7.out, HB7.out⟩
              case measure => simp [intOf]; omega
        · obtain ⟨m, rfl⟩ : ∃ m, k = m + 1 := ⟨k - 1, by omega⟩
          obtain ⟨r0, r1, r2, r3⟩ := HRT.out.2 m (by omega)
          simp only [Nat.zero_add] at r0 r1 r2 r3
          have hdf := q4 m rfl
          clear q1 q3 q4 hk0
          generalize hq : rnth L (m + 1) = q at *
          have HQ := Lib.hid hq
          clear hq
          obtain ⟨qf, qs, qv, qb⟩ := q
          generalize rnth L m = z at *
          obtain ⟨zf, zs, zv, zb⟩ := z
          simp only at p0 p1 p2 p3 q2 hw1 hw2 r0 r1 r2 r3 hdf
          have d1 : decide (qs < qf) = false := decide_eq_false (by omega)
          have d2 : (qf != qf) = false := by simp
          have d3 : decide ((0 : Int) < (m : Int) + 1) = true := decide_eq_true (by omega)
          have hm1 : (m : Int) < (L.length : Int) := by omega
          have hm2 : (m : Int) + 1 < (L.length : Int) := by omega
          have hm3 : (0 : Int) ≤ (m : Int) + 1 := by omega
          have hm4 : ((m : Int) + 1).toNat = m + 1 := by omega
          by_cases hv : qv = zv
          · subst hv
            have hbb : (qb == zb) = false := by
              cases qb <;> cases zb <;> simp_all
            have hbb' : decide (qb = zb) = false := by
              cases qb <;> cases zb <;> simp_all
            clear hdf
            go_wp2_with fail
            go_quiet (fail)
            have HB5 := Lib.hid (below_dN HB.out nq)
            have HRT5 : Hid (RAt (wr.drewN nq) g 0 L) := HRT.out
            have x0 : (wr.drewN nq).cell? ⟨g, (m + 1) * 4, none⟩ = some (.int .i64 qf) := p0
            have x1 : (wr.drewN nq).cell? ⟨g, (m + 1) * 4 + 1, none⟩ = some (.int .i64 qs) := p1
            have x2 : (wr.drewN nq).cell? ⟨g, (m + 1) * 4 + 2, none⟩ = some (.int .i64 qv) := p2
            have x3 : (wr.drewN nq).cell? ⟨g, (m + 1) * 4 + 3, none⟩ = some (.bool qb) := p3
            generalize wr.drewN nq = w5 at *
            clear HB HRT p0 p1 p2 p3
            try clear r0 r1 r2 r3
            have hgw : g < w5.heap.size := HRT5.out.1
            have hgne : g ≠ w5.heap.size := by omega
            go_wp2_with fail
            go_region_held3 (fun w' => w'.cell? ⟨g, (m + 1) * 4, none⟩ = some (.int .i64 qf) ∧ w'.cell? ⟨g, (m + 1) * 4 + 1, none⟩ = some (.int .i64 qs)) (first | go_keep | (trace_state; fail)) (fail)
            have HB6 : Hid (Below w.heap.size w (w5.alloc (.cells #[.int .i64 qf, .int .i64 qs, .int .i64 (f + y)] 41)).drew) := (HB5.out.alloc HB5.out.size _).drew
            have HRT6 : Hid (RAt (w5.alloc (.cells #[.int .i64 qf, .int .i64 qs, .int .i64 (f + y)] 41)).drew g 0 L) := RAt.below HRT5.out ((Below.refl w5.heap.size w5).alloc (Nat.le_refl _) _).drew hgw
            have HD6 : Hid (∀ j, j < 3 → (w5.alloc (.cells #[.int .i64 qf, .int .i64 qs, .int .i64 (f + y)] 41)).drew.cell? ⟨w5.heap.size, j, none⟩ = some (.int .i64 (nth [qf, qs, f + y] j))) := fun j hj => by
              have : j = 0 ∨ j = 1 ∨ j = 2 := by omega
              rcases this with rfl | rfl | rfl <;> simp [nth]
            have hbd6 : w5.heap.size < (w5.alloc (.cells #[.int .i64 qf, .int .i64 qs, .int .i64 (f + y)] 41)).drew.heap.size := by simp
            clear HB5 HRT5 x0 x1 x2 x3 hgw hgne
            generalize (w5.alloc (.cells #[.int .i64 qf, .int .i64 qs, .int .i64 (f + y)] 41)).drew = w6 at *
            generalize w5.heap.size = bd at *
            go_wp2_with fail
            go_loopw [16] (fun iv wq => ∃ kk : Nat, kk ≤ 3 ∧ iv = .int .i64 kk ∧ (∀ j, j < 3 → wq.cell? ⟨bd, j, none⟩ = some (.int .i64 (nth [qf, qs, f + y] j))) ∧ bd < wq.heap.size ∧ RAt wq g 0 L ∧ Below w.heap.size w wq) (fun iv _ => 3 - (intOf iv).toNat)
            case atStart => exact ⟨0, Nat.zero_le _, rfl, HD6.out, hbd6, HRT6.out, HB6.out⟩
            case round =>
              clear HD6 HRT6 HB6 hbd6
              obtain ⟨kk, hkk, rfl, hd7, hbd7, hrt7, hb7⟩ := hrel
              have HD7 := Lib.hid hd7
              have HRT7 := Lib.hid hrt7
              have HB7 := Lib.hid hb7
              clear hd7 hrt7 hb7
              by_cases hk3 : kk < 3
              · have hk3' : (kk : Int) < 3 := by omega
                have x7 := HD7.out kk hk3
                have hDD : f ≤ nth [qf, qs, f + y] kk ∧ nth [qf, qs, f + y] kk ≤ t := by
                  have : kk = 0 ∨ kk = 1 ∨ kk = 2 := by omega
                  rcases this with rfl | rfl | rfl <;> simp [nth] <;> omega
                generalize nth [qf, qs, f + y] kk = D at *
                obtain ⟨hD0, hD1⟩ := hDD
                go_wp2_with fail
                refine (At_any a n cap l D s wr (HC.out.below HB7.out) HN.out HM.out).mono ?_
                rintro e w8 ⟨v8, b8, er8, rfl, hA8, hb8⟩
                obtain ⟨rfl, hV8⟩ := at_day HZ.out D hD0 hD1 hA8
                have HB8 := Lib.hid (HB7.out.trans (hb8.mono HB7.out.size))
                have HRT8 := Lib.hid (HRT7.out.below hb8 HRT7.out.1)
                have HD8 : Hid (∀ j, j < 3 → w8.cell? ⟨bd, j, none⟩ = some (.int .i64 (nth [qf, qs, f + y] j))) := fun j hj => (hb8.cell (p := ⟨bd, j, none⟩) hbd7).trans (HD7.out j hj)
                have x8 := (hb8.cell (p := ⟨bd, kk, none⟩) hbd7).trans x7
                have hbd8 : bd < w8.heap.size := Nat.lt_of_lt_of_le hbd7 hb8.size
                have HV8 := Lib.hid hV8
                obtain ⟨p0, p1, p2, p3⟩ := HRT8.out.2 ((m + 1)) hlt
                simp only [Nat.zero_add] at p0 p1 p2 p3
                rw [HQ.out] at p0 p1 p2 p3
                simp only at p0 p1 p2 p3
                clear hb8 hA8 hV8 x7 HB7 HRT7 HD7
                by_cases e1 : qf ≤ D
                · have e1B : decide (qf ≤ D) = true := decide_eq_true e1
                  by_cases e2 : D ≤ qs
                  · have e2B : decide (D ≤ qs) = true := decide_eq_true e2
                    obtain ⟨rfl, rfl⟩ : qv = v8 ∧ qb = b8 := by
                      have := (HV.out D e1 e2).symm.trans HV8.out.symm
                      exact ⟨congrArg Prod.fst this, congrArg Prod.snd this⟩
                    go_wp2_with fail
                    go_quiet (fail)
                    go_wp2_with fail
                    go_roundw
                    case rel => exact ⟨kk + 1, by omega, by go_num, HD8.out, hbd8, HRT8.out, below_dN HB8.out _⟩
                    case measure => simp [intOf]; omega
                  · have e2B : decide (D ≤ qs) = false := decide_eq_false e2
                    go_wp2_with fail
                    go_quiet (fail)
                    go_wp2_with fail
                    go_roundw
                    case rel => exact ⟨kk + 1, by omega, by go_num, HD8.out, hbd8, HRT8.out, below_dN HB8.out _⟩
                    case measure => simp [intOf]; omega
                · have e1B : decide (qf ≤ D) = false := decide_eq_false e1
                  go_wp2_with fail
                  go_quiet (fail)
                  go_wp2_with fail
                  go_roundw
                  case rel => exact ⟨kk + 1, by omega, by go_num, HD8.out, hbd8, HRT8.out, below_dN HB8.out _⟩
                  case measure => simp [intOf]; omega
              · obtain rfl : kk = 3 := by omega
                obtain ⟨p0, p1, p2, p3⟩ := HRT7.out.2 ((m + 1)) hlt
                simp only [Nat.zero_add] at p0 p1 p2 p3
                rw [HQ.out] at p0 p1 p2 p3
                simp only at p0 p1 p2 p3
                go_wp2_with fail
                go_roundw
                case rel => exact ⟨(m + 1) + 1, by omega, by go_num, by rw [HE.out], HRT7.out, HB7.out⟩
                case measure => simp [intOf]; omega
          · have hvv : (qv == zv) = false := by simpa using hv
            have hvv' : decide (qv = zv) = false := decide_eq_false hv
            clear hdf
            go_wp2_with fail
            go_quiet (fail)
            have HB5 := Lib.hid (below_dN HB.out nq)
            have HRT5 : Hid (RAt (wr.drewN nq) g 0 L) := HRT.out
            have x0 : (wr.drewN nq).cell? ⟨g, (m + 1) * 4, none⟩ = some (.int .i64 qf) := p0
            have x1 : (wr.drewN nq).cell? ⟨g, (m + 1) * 4 + 1, none⟩ = some (.int .i64 qs) := p1
            have x2 : (wr.drewN nq).cell? ⟨g, (m + 1) * 4 + 2, none⟩ = some (.int .i64 qv) := p2
            have x3 : (wr.drewN nq).cell? ⟨g, (m + 1) * 4 + 3, none⟩ = some (.bool qb) := p3
            generalize wr.drewN nq = w5 at *
            clear HB HRT p0 p1 p2 p3
            try clear r0 r1 r2 r3
            have hgw : g < w5.heap.size := HRT5.out.1
            have hgne : g ≠ w5.heap.size := by omega
            go_wp2_with fail
            go_region_held3 (fun w' => w'.cell? ⟨g, (m + 1) * 4, none⟩ = some (.int .i64 qf) ∧ w'.cell? ⟨g, (m + 1) * 4 + 1, none⟩ = some (.int .i64 qs)) (first | go_keep | (trace_state; fail)) (fail)
            have HB6 : Hid (Below w.heap.size w (w5.alloc (.cells #[.int .i64 qf, .int .i64 qs, .int .i64 (f + y)] 41)).drew) := (HB5.out.alloc HB5.out.size _).drew
            have HRT6 : Hid (RAt (w5.alloc (.cells #[.int .i64 qf, .int .i64 qs, .int .i64 (f + y)] 41)).drew g 0 L) := RAt.below HRT5.out ((Below.refl w5.heap.size w5).alloc (Nat.le_refl _) _).drew hgw
            have HD6 : Hid (∀ j, j < 3 → (w5.alloc (.cells #[.int .i64 qf, .int .i64 qs, .int .i64 (f + y)] 41)).drew.cell? ⟨w5.heap.size, j, none⟩ = some (.int .i64 (nth [qf, qs, f + y] j))) := fun j hj => by
              have : j = 0 ∨ j = 1 ∨ j = 2 := by omega
              rcases this with rfl | rfl | rfl <;> simp [nth]
            have hbd6 : w5.heap.size < (w5.alloc (.cells #[.int .i64 qf, .int .i64 qs, .int .i64 (f + y)] 41)).drew.heap.size := by simp
            clear HB5 HRT5 x0 x1 x2 x3 hgw hgne
            generalize (w5.alloc (.cells #[.int .i64 qf, .int .i64 qs, .int .i64 (f + y)] 41)).drew = w6 at *
            generalize w5.heap.size = bd at *
            go_wp2_with fail
            go_loopw [16] (fun iv wq => ∃ kk : Nat, kk ≤ 3 ∧ iv = .int .i64 kk ∧ (∀ j, j < 3 → wq.cell? ⟨bd, j, none⟩ = some (.int .i64 (nth [qf, qs, f + y] j))) ∧ bd < wq.heap.size ∧ RAt wq g 0 L ∧ Below w.heap.size w wq) (fun iv _ => 3 - (intOf iv).toNat)
            case atStart => exact ⟨0, Nat.zero_le _, rfl, HD6.out, hbd6, HRT6.out, HB6.out⟩
            case round =>
              clear HD6 HRT6 HB6 hbd6
              obtain ⟨kk, hkk, rfl, hd7, hbd7, hrt7, hb7⟩ := hrel
              have HD7 := Lib.hid hd7
              have HRT7 := Lib.hid hrt7
              have HB7 := Lib.hid hb7
              clear hd7 hrt7 hb7
              by_cases hk3 : kk < 3
              · have hk3' : (kk : Int) < 3 := by omega
                have x7 := HD7.out kk hk3
                have hDD : f ≤ nth [qf, qs, f + y] kk ∧ nth [qf, qs, f + y] kk ≤ t := by
                  have : kk = 0 ∨ kk = 1 ∨ kk = 2 := by omega
                  rcases this with rfl | rfl | rfl <;> simp [nth] <;> omega
                generalize nth [qf, qs, f + y] kk = D at *
                obtain ⟨hD0, hD1⟩ := hDD
                go_wp2_with fail
                refine (At_any a n cap l D s wr (HC.out.below HB7.out) HN.out HM.out).mono ?_
                rintro e w8 ⟨v8, b8, er8, rfl, hA8, hb8⟩
                obtain ⟨rfl, hV8⟩ := at_day HZ.out D hD0 hD1 hA8
                have HB8 := Lib.hid (HB7.out.trans (hb8.mono HB7.out.size))
                have HRT8 := Lib.hid (HRT7.out.below hb8 HRT7.out.1)
                have HD8 : Hid (∀ j, j < 3 → w8.cell? ⟨bd, j, none⟩ = some (.int .i64 (nth [qf, qs, f + y] j))) := fun j hj => (hb8.cell (p := ⟨bd, j, none⟩) hbd7).trans (HD7.out j hj)
                have x8 := (hb8.cell (p := ⟨bd, kk, none⟩) hbd7).trans x7
                have hbd8 : bd < w8.heap.size := Nat.lt_of_lt_of_le hbd7 hb8.size
                have HV8 := Lib.hid hV8
                obtain ⟨p0, p1, p2, p3⟩ := HRT8.out.2 ((m + 1)) hlt
                simp only [Nat.zero_add] at p0 p1 p2 p3
                rw [HQ.out] at p0 p1 p2 p3
                simp only at p0 p1 p2 p3
                clear hb8 hA8 hV8 x7 HB7 HRT7 HD7
                by_cases e1 : qf ≤ D
                · have e1B : decide (qf ≤ D) = true := decide_eq_true e1
                  by_cases e2 : D ≤ qs
                  · have e2B : decide (D ≤ qs) = true := decide_eq_true e2
                    obtain ⟨rfl, rfl⟩ : qv = v8 ∧ qb = b8 := by
                      have := (HV.out D e1 e2).symm.trans HV8.out.symm
                      exact ⟨congrArg Prod.fst this, congrArg Prod.snd this⟩
                    go_wp2_with fail
                    go_quiet (fail)
                    go_wp2_with fail
                    go_roundw
                    case rel => exact ⟨kk + 1, by omega, by go_num, HD8.out, hbd8, HRT8.out, below_dN HB8.out _⟩
                    case measure => simp [intOf]; omega
                  · have e2B : decide (D ≤ qs) = false := decide_eq_false e2
                    go_wp2_with fail
                    go_quiet (fail)
                    go_wp2_with fail
                    go_roundw
                    case rel => exact ⟨kk + 1, by omega, by go_num, HD8.out, hbd8, HRT8.out, below_dN HB8.out _⟩
                    case measure => simp [intOf]; omega
                · have e1B : decide (qf ≤ D) = false := decide_eq_false e1
                  go_wp2_with fail
                  go_quiet (fail)
                  go_wp2_with fail
                  go_roundw
                  case rel => exact ⟨kk + 1, by omega, by go_num, HD8.out, hbd8, HRT8.out, below_dN HB8.out _⟩
                  case measure => simp [intOf]; omega
              · obtain rfl : kk = 3 := by omega
                obtain ⟨p0, p1, p2, p3⟩ := HRT7.out.2 ((m + 1)) hlt
                simp only [Nat.zero_add] at p0 p1 p2 p3
                rw [HQ.out] at p0 p1 p2 p3
                simp only at p0 p1 p2 p3
                go_wp2_with fail
                go_roundw
                case rel => exact ⟨(m + 1) + 1, by omega, by go_num, by rw [HE.out], HRT7.out, HB7.out⟩
                case measure => simp [intOf]; omega
      · obtain rfl : k = L.length := by omega
        have HE2 := Lib.hid HST.out.2
        have hlB : decide ((L.length : Int) < (L.length : Int)) = false := decide_eq_false (by omega)
        rw [HE2.out]
        go_wp2_with fail
        go_ret
        exact ⟨cret_bool (by simp), HB.out⟩
end Go.Proofs.Ytjokgohnpnhhdaa
