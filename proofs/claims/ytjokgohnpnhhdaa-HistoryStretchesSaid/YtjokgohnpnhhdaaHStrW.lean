/-
  Promise D3: the walk of Stretches.
-/
import Derived.Test.YtjokgohnpnhhdaaHStr
import Derived.Test.YtjokgohnpnhhdaaHAppS
import Derived.Deep.RegionHeld3
namespace Go.Proofs.Ytjokgohnpnhhdaa
open Go.RowKit

theorem three_cells (w : World) (d e f : Int) : ∀ k, k < 3 → (w.alloc (.cells #[.int .i64 d, .int .i64 e, .int .i64 f] 3)).cell? ⟨w.heap.size, k, none⟩ = some (.int .i64 (nth [d, e, f] k)) := by
  intro k hk
  have : k = 0 ∨ k = 1 ∨ k = 2 := by omega
  rcases this with rfl | rfl | rfl <;> simp [nth]
theorem GrowS.below {w w' : World} {B : Nat} {v : Value} {l : List Rw} (h : GrowS w B v l) (hb : Below w.heap.size w w') : GrowS w' B v l := by
  refine World.ownsRow.kept (row := none) h ⟨hb.os, hb.tape, hb.output, hb.size, fun k hk _ => hb.block k hk⟩ ?_
  cases v.ownBlock with
  | none => exact .inl rfl
  | some k => exact .inr (Option.some_ne_none k)
/-- What holds at a day, in a box. -/
def BoxH (w : World) (g : Nat) (v : Int) (s : Bool) : Prop := w.cell? ⟨g, 0, none⟩ = some (.int .i64 v) ∧ w.cell? ⟨g, 1, none⟩ = some (.bool s)
theorem BoxH.lt {w : World} {g : Nat} {v : Int} {s : Bool} (h : BoxH w g v s) : g < w.heap.size := rlt_of_cell h.1
theorem BoxH.below {w w' : World} {g : Nat} {v : Int} {s : Bool} (h : BoxH w g v s) (hb : Below w.heap.size w w') : BoxH w' g v s :=
  ⟨(hb.cell (p := ⟨g, 0, none⟩) h.lt).trans h.1, (hb.cell (p := ⟨g, 1, none⟩) h.lt).trans h.2⟩
/-- What Stretches answers. -/
def StrIs (w' : World) (B : Nat) (l : List Rw) (f t s : Int) (v : Value) (er : Int) : Prop :=
  (dayE l [f, t, s] ≠ 0 ∧ v = .slice none 0 0 ∧ er = dayE l [f, t, s]) ∨ (dayE l [f, t, s] = 0 ∧ t < f ∧ v = .slice none 0 0 ∧ er = 3) ∨
  (dayE l [f, t, s] = 0 ∧ f ≤ t ∧ er = 0 ∧ ∃ L, GrowS w' B v L ∧ Str (hvD l s) f L (t + 1))
theorem dayE3 {l : List Rw} {f t s : Int} (h : dayE l [f, t, s] = 0) : histE l = 0 ∧ 0 ≤ f ∧ f ≤ 73048 ∧ 0 ≤ t ∧ t ≤ 73048 ∧ 0 ≤ s ∧ s ≤ 73048 := by
  obtain ⟨h1, h2⟩ := dayE_ok h
  simp only [List.all_cons, List.all_nil, Bool.and_true, Bool.and_eq_true] at h2
  have a := dayB_iff.1 h2.1
  have b := dayB_iff.1 h2.2.1
  have c := dayB_iff.1 h2.2.2
  exact ⟨h1, a.1, a.2, b.1, b.2, c.1, c.2⟩

set_option maxRecDepth 100000 in
set_option maxHeartbeats 2000000 in
theorem Stretches_any (a : Option Addr) (n cap : Nat) (l : List Rw) (f t s : Int) (w : World) (hc : CameR w a l) (hn : l.length = n) (hm : n ≤ maxLen) :
    Calls Try.prog 10 #[.slice a n cap, .int .i64 f, .int .i64 t, .int .i64 s] w fun e w' => ∃ (v : Value) (er : Int), e = .returned (.tuple #[v, .int .i64 er]) ∧ StrIs w' w.heap.size l f t s v er ∧ Below w.heap.size w w' := by
  have hb0 := (Below.refl w.heap.size w).alloc (Nat.le_refl _) (.cells #[.int .i64 f, .int .i64 t, .int .i64 s] 3)
  have HK := Lib.hid (checkDays_any a n cap l w.heap.size 3 3 [f, t, s] _ (hc.below hb0) hn hm (by simp) (three_cells w f t s) rfl (by omega))
  have HB0 := Lib.hid hb0
  have HC := Lib.hid hc
  have HN := Lib.hid hn
  clear hc hb0 hn
  go_enter Try.func10, Try.ntmps10
  go_wp2_with fail
  refine HK.out.mono ?_
  rintro e w1 ⟨rfl, hb1⟩
  have HB1 := Lib.hid (HB0.out.trans (hb1.mono HB0.out.size))
  clear hb1 HK
  by_cases hz : dayE l [f, t, s] = 0
  · obtain ⟨hh, f0, f1, t0, t1, s0, s1⟩ := dayE3 hz
    have hok := histE_ok hh
    have hn50 : n ≤ 50 := by have := HN.out; omega
    have HROW := Lib.hid hok.2.1
    clear hok hh
    by_cases hft : t < f
    · go_wp2_with fail
      go_ret2
      exact ⟨_, _, rfl, .inr (.inl ⟨hz, hft, rfl, rfl⟩), HB1.out⟩
    · have hftB : decide (t < f) = false := decide_eq_false hft
      go_wp2_with fail
      go_loopw [11, 12] (fun sv dv wr => ∃ (L : List Rw) (x : Int), dv = .int .i64 x ∧ f ≤ x ∧ x ≤ t + 1 ∧ GrowS wr w.heap.size sv L ∧ Str (hvD l s) f L x ∧ (∀ k, L.length = k + 1 → x ≤ t → ((rnth L k).val, (rnth L k).gone) ≠ hvD l s x) ∧ Below w.heap.size w wr) (fun _ dv _ => (73050 - intOf dv).toNat)
      case atStart => exact ⟨[], f, rfl, Int.le_refl _, by omega, GrowS.nil _ _, Str.nil _ _, fun k hk => absurd hk (by simp), HB1.out⟩
      case round =>
        obtain ⟨L, x, rfl, hx0, hx1, hgr, hst, hdf, hb⟩ := hrel
        have HG := Lib.hid hgr
        have HST := Lib.hid hst
        have HDF := Lib.hid hdf
        have HB := Lib.hid hb
        clear hgr hst hdf hb
        by_cases hle : x ≤ t
        · have HL : Hid ((L.length : Int) ≤ 73049) := by have := Str.len _ _ _ rfl HST.out; simp only [Hid]; omega
          go_wp2_with fail
          refine (holds_any a n cap l x s _ (HC.out.below HB.out) HN.out hn50).mono ?_
          rintro e w2 ⟨rfl, hb2⟩
          have HB2 := Lib.hid (HB.out.trans (hb2.mono HB.out.size))
          have HG2 := Lib.hid (HG.out.below hb2)
          clear hb2 HG
          have HV : Hid (hvD l s x = (atV (best l x s n), atS (best l x s n))) := by unfold Hid hvD; rw [HN.out]
          generalize atV (best l x s n) = v1 at *
          generalize atS (best l x s n) = b1 at *
          have HB3 := Lib.hid (HB2.out.alloc HB2.out.size (.cells #[.int .i64 v1, .bool b1] 47))
          have HG3 := Lib.hid (HG2.out.alloc (.cells #[.int .i64 v1, .bool b1] 47))
          have HX3 : Hid (BoxH (w2.alloc (.cells #[.int .i64 v1, .bool b1] 47)) w2.heap.size v1 b1) := ⟨by simp, by simp⟩
          go_wp2_with fail
          refine (nextFrom_any a n cap l x _ (HC.out.below HB3.out) HN.out hn50 HROW.out (by omega)).mono ?_
          rintro e w4 ⟨r, rfl, ⟨hr1, hr2, _, hr4⟩, hb4⟩
          have HB4 := Lib.hid (HB3.out.trans (hb4.mono HB3.out.size))
          have HG4 := Lib.hid (HG3.out.below hb4)
          have HX4 := Lib.hid (HX3.out.below hb4)
          have HST4 : Hid (∀ j, x ≤ j → j < r → hvD l s j = hvD l s x) := fun j h1 h2 => hvD_still h1 fun i hi => by
            by_cases e2 : (rnth l i).frm ≤ x
            · exact .inl e2
            · have := hr4 i (by rw [← HN.out]; exact hi) (by omega)
              exact .inr (by omega)
          clear hb4 hr4 HB3 HG3 HX3 HB2 HG2
          generalize w2.heap.size = hb' at *
          go_wp2_with fail
          go_loopw [14] (fun bv wq => ∃ b : Int, bv = .int .i64 b ∧ x < b ∧ b ≤ 73049 ∧ (∀ j, x ≤ j → j < b → hvD l s j = hvD l s x) ∧ BoxH wq hb' v1 b1 ∧ GrowS wq w.heap.size u11 L ∧ Below w.heap.size w wq) (fun bv _ => (73050 - intOf bv).toNat)
          case atStart => exact ⟨r, rfl, hr1, hr2, HST4.out, HX4.out, HG4.out, HB4.out⟩
          case round =>
            clear HST4 HX4 HG4 HB4
            obtain ⟨b, rfl, hb1, hb2, hall, hbx, hgr, hbl⟩ := hrel
            have HA := Lib.hid hall
            have HX := Lib.hid hbx
            have HG := Lib.hid hgr
            have HBQ := Lib.hid hbl
            clear hall hgr hbl
            obtain ⟨y0, y1⟩ := hbx
            by_cases hbt : b ≤ t
            · have hbtB : decide (b ≤ t) = true := decide_eq_true hbt
              have HVB : Hid (hvD l s b = (atV (best l b s n), atS (best l b s n))) := by unfold Hid hvD; rw [HN.out]
              have HH := Lib.hid (fun w hc => holds_any a n cap l b s w hc HN.out hn50)
              generalize atV (best l b s n) = v2 at *
              generalize atS (best l b s n) = b2 at *
              by_cases hv : v1 = v2
              · subst hv
                by_cases hs : b1 = b2
                · subst hs
                  have HEQ : Hid (hvD l s b = hvD l s x) := by unfold Hid; rw [HVB.out, HV.out]
                  go_wp2_with fail
                  go_region_held3 (fun w' => w'.cell? ⟨hb', 0, none⟩ = some (.int .i64 v1) ∧ w'.cell? ⟨hb', 1, none⟩ = some (.bool b1)) (first | go_keep | (exact ⟨(hb5.cell (p := ⟨hb', 0, none⟩) HX.out.lt).trans y0, (hb5.cell (p := ⟨hb', 1, none⟩) HX.out.lt).trans y1⟩) | (trace_state; fail))
                    ((go_at_call 20; refine (HH.out _ (by first | exact HC.out.below HBQ.out | exact HC.out.below HBQ.out.drew | (trace_state; fail))).mono ?_; rintro e w5 ⟨rfl, hb5⟩))
                  have HB5 := Lib.hid (HBQ.out.drew.trans (hb5.mono HBQ.out.size))
                  have HX5 := Lib.hid (BoxH.below (w := wr.drew) HX.out hb5)
                  have HG5 := Lib.hid (GrowS.below (w := wr.drew) HG.out hb5)
                  clear hb5 y0 y1 HX HG HBQ
                  go_wp2_with fail
                  refine (nextFrom_any a n cap l b _ (HC.out.below HB5.out) HN.out hn50 HROW.out (by omega)).mono ?_
                  rintro e w6 ⟨r2, rfl, ⟨hr1', hr2', _, hr4'⟩, hb6⟩
                  have HB6 := Lib.hid (HB5.out.trans (hb6.mono HB5.out.size))
                  have HX6 := Lib.hid (HX5.out.below hb6)
                  have HG6 := Lib.hid (HG5.out.below hb6)
                  have HA6 : Hid (∀ j, x ≤ j → j < r2 → hvD l s j = hvD l s x) := fun j h1 h2 => by
                    by_cases e : j < b
                    · exact HA.out j h1 e
                    · rw [hvD_still (x := b) (y := j) (by omega) fun i hi => by
                        by_cases e2 : (rnth l i).frm ≤ b
                        · exact .inl e2
                        · have := hr4' i (by rw [← HN.out]; exact hi) (by omega)
                          exact .inr (by omega)]
                      exact HEQ.out
                  clear hb6 hr4'
                  go_wp2_with fail
                  go_roundw
                  case rel => exact ⟨r2, rfl, by omega, hr2', HA6.out, HX6.out, HG6.out, HB6.out⟩
                  case measure => simp [intOf]; omega
                · have HNE : Hid (hvD l s b ≠ hvD l s x) := fun e => by
                    rw [HVB.out, HV.out] at e
                    exact hs (congrArg Prod.snd e).symm
                  have hsB : (b2 == b1) = false := by cases b1 <;> cases b2 <;> simp_all
                  go_wp2_with fail
                  cases b1 <;> cases b2 <;> simp at hsB
                  · go_region_held3 (fun w' => w'.cell? ⟨hb', 0, none⟩ = some (.int .i64 v1) ∧ w'.cell? ⟨hb', 1, none⟩ = some (.bool false)) (first | go_keep | (exact ⟨(hb5.cell (p := ⟨hb', 0, none⟩) HX.out.lt).trans y0, (hb5.cell (p := ⟨hb', 1, none⟩) HX.out.lt).trans y1⟩) | (trace_state; fail))
                      ((go_at_call 20; refine (HH.out _ (by first | exact HC.out.below HBQ.out | exact HC.out.below HBQ.out.drew | (trace_state; fail))).mono ?_; rintro e w5 ⟨rfl, hb5⟩))
                    have HB5 := Lib.hid (HBQ.out.drew.trans (hb5.mono HBQ.out.size))
                    have HX5 := Lib.hid (BoxH.below (w := wr.drew) HX.out hb5)
                    have HG5 := Lib.hid (GrowS.below (w := wr.drew) HG.out hb5)
                    clear hb5 y0 y1 HX HG HBQ
                    obtain ⟨y0, y1⟩ := HX5.out
                    go_wp2_with (at_builtin; refine wpList_app_sts _ rfl _ _ rfl w.heap.size _ L rfl ?hgw (some ⟨w5.heap.size, 0, none⟩) 1 1 [⟨x, b - 1, v1, false⟩] rfl ?hcm rfl ?hbd ?hB ?_; rotate_right; intro v9 w9 hg9 hb9; refine Hid.out ?_)
                    case hgw => exact HG5.out.alloc _
                    case hcm => exact cameS_box w5 x (b - 1) v1 false
                    case hbd => have := HL.out; omega
                    case hB => have := HB5.out.size; simp; omega
                    have HB9 := Lib.hid ((HB5.out.alloc HB5.out.size _).trans hb9)
                    have HG9 := Lib.hid hg9
                    clear hg9 hb9 y0 y1
                    refine Lib.hid ?_
                    go_wp2_with fail
                    go_roundw
                    case rel =>
                      refine ⟨L ++ [⟨x, b - 1, v1, false⟩], b, rfl, by omega, by omega, HG9.out, ?_, ?_, HB9.out⟩
                      · have hs9 := HST.out.snoc ⟨x, b - 1, v1, false⟩ rfl (show x ≤ b - 1 by omega) (fun j h1 h2 => by
                          have h2' : j ≤ b - 1 := h2
                          rw [HA.out j h1 (by omega), HV.out]) (fun k hk => by
                          rw [← HV.out]
                          exact HDF.out k hk hle)
                        have e9 : (b - 1 : Int) + 1 = b := by omega
                        exact Str.at hs9 e9
                      · intro k hk hlt9
                        rw [List.length_append] at hk
                        obtain rfl : k = L.length := by simpa using hk.symm
                        rw [snoc_new, ← HV.out]
                        exact fun e => HNE.out e.symm
                    case measure => simp [intOf]; omega
                  · go_region_held3 (fun w' => w'.cell? ⟨hb', 0, none⟩ = some (.int .i64 v1) ∧ w'.cell? ⟨hb', 1, none⟩ = some (.bool true)) (first | go_keep | (exact ⟨(hb5.cell (p := ⟨hb', 0, none⟩) HX.out.lt).trans y0, (hb5.cell (p := ⟨hb', 1, none⟩) HX.out.lt).trans y1⟩) | (trace_state; fail))
                      ((go_at_call 20; refine (HH.out _ (by first | exact HC.out.below HBQ.out | exact HC.out.below HBQ.out.drew | (trace_state; fail))).mono ?_; rintro e w5 ⟨rfl, hb5⟩))
                    have HB5 := Lib.hid (HBQ.out.drew.trans (hb5.mono HBQ.out.size))
                    have HX5 := Lib.hid (BoxH.below (w := wr.drew) HX.out hb5)
                    have HG5 := Lib.hid (GrowS.below (w := wr.drew) HG.out hb5)
                    clear hb5 y0 y1 HX HG HBQ
                    obtain ⟨y0, y1⟩ := HX5.out
                    go_wp2_with (at_builtin; refine wpList_app_sts _ rfl _ _ rfl w.heap.size _ L rfl ?hgw (some ⟨w5.heap.size, 0, none⟩) 1 1 [⟨x, b - 1, v1, true⟩] rfl ?hcm rfl ?hbd ?hB ?_; rotate_right; intro v9 w9 hg9 hb9; refine Hid.out ?_)
                    case hgw => exact HG5.out.alloc _
                    case hcm => exact cameS_box w5 x (b - 1) v1 true
                    case hbd => have := HL.out; omega
                    case hB => have := HB5.out.size; simp; omega
                    have HB9 := Lib.hid ((HB5.out.alloc HB5.out.size _).trans hb9)
                    have HG9 := Lib.hid hg9
                    clear hg9 hb9 y0 y1
                    refine Lib.hid ?_
                    go_wp2_with fail
                    go_roundw
                    case rel =>
                      refine ⟨L ++ [⟨x, b - 1, v1, true⟩], b, rfl, by omega, by omega, HG9.out, ?_, ?_, HB9.out⟩
                      · have hs9 := HST.out.snoc ⟨x, b - 1, v1, true⟩ rfl (show x ≤ b - 1 by omega) (fun j h1 h2 => by
                          have h2' : j ≤ b - 1 := h2
                          rw [HA.out j h1 (by omega), HV.out]) (fun k hk => by
                          rw [← HV.out]
                          exact HDF.out k hk hle)
                        have e9 : (b - 1 : Int) + 1 = b := by omega
                        exact Str.at hs9 e9
                      · intro k hk hlt9
                        rw [List.length_append] at hk
                        obtain rfl : k = L.length := by simpa using hk.symm
                        rw [snoc_new, ← HV.out]
                        exact fun e => HNE.out e.symm
                    case measure => simp [intOf]; omega
              · have HNE : Hid (hvD l s b ≠ hvD l s x) := fun e => by
                  rw [HVB.out, HV.out] at e
                  exact hv (congrArg Prod.fst e).symm
                have hvB : decide (v2 = v1) = false := decide_eq_false fun e => hv e.symm
                have hvC : (v2 == v1) = false := by simpa using fun e => hv e.symm
                have hvD' : ¬ v2 = v1 := fun e => hv e.symm
                go_wp2_with fail
                go_region_held3 (fun w' => w'.cell? ⟨hb', 0, none⟩ = some (.int .i64 v1) ∧ w'.cell? ⟨hb', 1, none⟩ = some (.bool b1)) (first | go_keep | (exact ⟨(hb5.cell (p := ⟨hb', 0, none⟩) HX.out.lt).trans y0, (hb5.cell (p := ⟨hb', 1, none⟩) HX.out.lt).trans y1⟩) | (trace_state; fail))
                  ((go_at_call 20; refine (HH.out _ (by first | exact HC.out.below HBQ.out | exact HC.out.below HBQ.out.drew | (trace_state; fail))).mono ?_; rintro e w5 ⟨rfl, hb5⟩))
                have HB5 := Lib.hid (HBQ.out.drew.trans (hb5.mono HBQ.out.size))
                have HX5 := Lib.hid (BoxH.below (w := wr.drew) HX.out hb5)
                have HG5 := Lib.hid (GrowS.below (w := wr.drew) HG.out hb5)
                clear hb5 y0 y1 HX HG HBQ
                obtain ⟨y0, y1⟩ := HX5.out
                go_wp2_with (at_builtin; refine wpList_app_sts _ rfl _ _ rfl w.heap.size _ L rfl ?hgw (some ⟨w5.heap.size, 0, none⟩) 1 1 [⟨x, b - 1, v1, b1⟩] rfl ?hcm rfl ?hbd ?hB ?_; rotate_right; intro v9 w9 hg9 hb9; refine Hid.out ?_)
                case hgw => exact HG5.out.alloc _
                case hcm => exact cameS_box w5 x (b - 1) v1 b1
                case hbd => have := HL.out; omega
                case hB => have := HB5.out.size; simp; omega
                have HB9 := Lib.hid ((HB5.out.alloc HB5.out.size _).trans hb9)
                have HG9 := Lib.hid hg9
                clear hg9 hb9 y0 y1
                refine Lib.hid ?_
                go_wp2_with fail
                go_roundw
                case rel =>
                  refine ⟨L ++ [⟨x, b - 1, v1, b1⟩], b, rfl, by omega, by omega, HG9.out, ?_, ?_, HB9.out⟩
                  · have hs9 := HST.out.snoc ⟨x, b - 1, v1, b1⟩ rfl (show x ≤ b - 1 by omega) (fun j h1 h2 => by
                      have h2' : j ≤ b - 1 := h2
                      rw [HA.out j h1 (by omega), HV.out]) (fun k hk => by
                      rw [← HV.out]
                      exact HDF.out k hk hle)
                    have e9 : (b - 1 : Int) + 1 = b := by omega
                    exact Str.at hs9 e9
                  · intro k hk hlt9
                    rw [List.length_append] at hk
                    obtain rfl : k = L.length := by simpa using hk.symm
                    rw [snoc_new, ← HV.out]
                    exact fun e => HNE.out e.symm
                case measure => simp [intOf]; omega
            · have hbtB : decide (b ≤ t) = false := decide_eq_false hbt
              go_wp2_with fail
              go_quiet (fail)
              have HB5 := Lib.hid (below_dN HBQ.out nq)
              have HX5 : Hid (BoxH (wr.drewN nq) hb' v1 b1) := HX.out
              have HG5 : Hid (GrowS (wr.drewN nq) w.heap.size u11 L) := HG.out
              clear HX HG HBQ
              generalize wr.drewN nq = w5 at *
              by_cases hbe : b = t + 1
              · subst hbe
                have hmB : decide (t + 1 < t + 1) = false := decide_eq_false (by omega)
                obtain ⟨y0, y1⟩ := HX5.out
                go_wp2_with (at_builtin; refine wpList_app_sts _ rfl _ _ rfl w.heap.size _ L rfl ?hgw (some ⟨w5.heap.size, 0, none⟩) 1 1 [⟨x, t, v1, b1⟩] rfl ?hcm rfl ?hbd ?hB ?_; rotate_right; intro v9 w9 hg9 hb9; refine Hid.out ?_)
                case hgw => exact HG5.out.alloc _
                case hcm => exact cameS_box w5 x (t) v1 b1
                case hbd => have := HL.out; omega
                case hB => have := HB5.out.size; simp; omega
                have HB9 := Lib.hid ((HB5.out.alloc HB5.out.size _).trans hb9)
                have HG9 := Lib.hid hg9
                clear hg9 hb9 y0 y1
                refine Lib.hid ?_
                go_wp2_with fail
                go_roundw
                case rel =>
                  refine ⟨L ++ [⟨x, t, v1, b1⟩], (t + 1), rfl, by omega, by omega, HG9.out, ?_, ?_, HB9.out⟩
                  · have hs9 := HST.out.snoc ⟨x, t, v1, b1⟩ rfl (show x ≤ t by omega) (fun j h1 h2 => by
                      have h2' : j ≤ t := h2
                      rw [HA.out j h1 (by omega), HV.out]) (fun k hk => by
                      rw [← HV.out]
                      exact HDF.out k hk hle)
                    have e9 : (t : Int) + 1 = (t + 1) := by omega
                    exact Str.at hs9 e9
                  · intro k hk hlt9
                    rw [List.length_append] at hk
                    obtain rfl : k = L.length := by simpa using hk.symm
                    rw [snoc_new, ← HV.out]
                    exact absurd hlt9 (by omega)
                case measure => simp [intOf]; omega
              · have hmB : decide (t + 1 < b) = true := decide_eq_true (by omega)
                have hmB' : t + 1 < b := by omega
                obtain ⟨y0, y1⟩ := HX5.out
                go_wp2_with (at_builtin; refine wpList_app_sts _ rfl _ _ rfl w.heap.size _ L rfl ?hgw (some ⟨w5.heap.size, 0, none⟩) 1 1 [⟨x, t, v1, b1⟩] rfl ?hcm rfl ?hbd ?hB ?_; rotate_right; intro v9 w9 hg9 hb9; refine Hid.out ?_)
                case hgw => exact HG5.out.alloc _
                case hcm => exact cameS_box w5 x (t) v1 b1
                case hbd => have := HL.out; omega
                case hB => have := HB5.out.size; simp; omega
                have HB9 := Lib.hid ((HB5.out.alloc HB5.out.size _).trans hb9)
                have HG9 := Lib.hid hg9
                clear hg9 hb9 y0 y1
                refine Lib.hid ?_
                go_wp2_with fail
                go_roundw
                case rel =>
                  refine ⟨L ++ [⟨x, t, v1, b1⟩], (t + 1), rfl, by omega, by omega, HG9.out, ?_, ?_, HB9.out⟩
                  · have hs9 := HST.out.snoc ⟨x, t, v1, b1⟩ rfl (show x ≤ t by omega) (fun j h1 h2 => by
                      have h2' : j ≤ t := h2
                      rw [HA.out j h1 (by omega), HV.out]) (fun k hk => by
                      rw [← HV.out]
                      exact HDF.out k hk hle)
                    have e9 : (t : Int) + 1 = (t + 1) := by omega
                    exact Str.at hs9 e9
                  · intro k hk hlt9
                    rw [List.length_append] at hk
                    obtain rfl : k = L.length := by simpa using hk.symm
                    rw [snoc_new, ← HV.out]
                    exact absurd hlt9 (by omega)
                case measure => simp [intOf]; omega
        · obtain rfl : x = t + 1 := by omega
          have hleB : decide (t + 1 ≤ t) = false := decide_eq_false (by omega)
          go_wp2_with fail
          go_ret2
          exact ⟨_, _, rfl, .inr (.inr ⟨hz, by omega, rfl, L, HG.out, HST.out⟩), HB.out⟩
  · have hzB : decide (dayE l [f, t, s] = 0) = false := decide_eq_false hz
    go_wp2_with fail
    go_ret2
    exact ⟨_, _, rfl, .inl ⟨hz, rfl, rfl⟩, HB1.out⟩
end Go.Proofs.Ytjokgohnpnhhdaa
