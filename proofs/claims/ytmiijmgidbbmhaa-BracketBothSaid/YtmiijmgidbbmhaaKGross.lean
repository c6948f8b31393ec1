/-
  Promise G3: walks of what Gross asks of a base, of the search and of Gross.
-/
import Derived.Test.YtmiijmgidbbmhaaKTax
import Derived.Deep.RegionHeld3
namespace Go.Proofs.Ytmiijmgidbbmhaa
open Go.RowKit

theorem kfrom_drew {W w2 : World} (h : Below W.drew.heap.size W.drew w2) : Below W.heap.size W w2 := (Below.refl W.heap.size W).drew.trans h
/-- Is enough left of a base? -/
def okB (l : List Bk) (net x : Int) : Bool := decide (net ≤ x - taxN l x)
set_option maxRecDepth 100000 in
set_option maxHeartbeats 1000000 in
theorem left_any (x : Int) (bt bn : Nat) (s : ByteArray) (a : Option Addr) (n cap : Nat) (l : List Bk) (net : Int) (w : World) (hT : TIs w bt s a n cap) (hN : w.cell? ⟨bn, 0, none⟩ = some (.int .i64 net)) (hc : CameB w a l) (hn : l.length = n) (hl : Right l) (h0 : 0 ≤ x) (h1 : x ≤ 1000000000000) :
    Calls Try.prog 39 #[.int .i64 x, .pointer (some ⟨bt, 0, none⟩), .pointer (some ⟨bn, 0, none⟩)] w fun e w' => e = .returned (.bool (okB l net x)) ∧ Below w.heap.size w w' := by
  have HL := Lib.hid hl
  have HC := Lib.hid hc
  have hb1 : bt < w.heap.size := hT.1
  have hb2 : bn < w.heap.size := blt_of_cell hN
  have x1 := hT.2.2
  have htx := tax_le hl x
  have HR : Hid (okB l net x = decide (net ≤ x - taxN l x)) := rfl
  clear hT hc hl
  generalize hv : taxN l x = v at *
  go_enter Try.func39, Try.ntmps39
  go_wp2_with fail
  go_region_held3 (fun w' => w'.cell? ⟨bt, 1, none⟩ = some (.slice a n cap) ∧ w'.cell? ⟨bn, 0, none⟩ = some (.int .i64 net)) (go_keep)
    (first
      | (go_at_call 34; refine (taxOf_any a n cap l x _ (HC.out.below (Below.refl _ _).drew) hn HL.out (by omega) h1).mono ?_; rintro e w1 ⟨rfl, hb⟩
         rw [hv]
         have HB1 := Lib.hid (kfrom_drew hb); clear hb
         have a0 : w1.cell? ⟨bt, 1, none⟩ = some (.slice a n cap) := (HB1.out.cell (p := ⟨bt, 1, none⟩) hb1).trans x1
         have a1 : w1.cell? ⟨bn, 0, none⟩ = some (.int .i64 net) := (HB1.out.cell (p := ⟨bn, 0, none⟩) hb2).trans hN))
  all_goals go_wp2_with fail
  all_goals go_ret
  all_goals exact ⟨kret_bool (by rw [HR.out, IntWalk.i64_in _ (by omega)]), HB1.out⟩
/-- The least that is enough, or one more than all. -/
def LeastIs (l : List Bk) (net i : Int) : Prop := 0 ≤ i ∧ i ≤ 1000000000001 ∧ (∀ x, 0 ≤ x → x < i → okB l net x = false) ∧ (i ≤ 1000000000000 → okB l net i = true)
theorem okB_up {l : List Bk} (hl : Right l) {net x y : Int} (hxy : x ≤ y) (h : okB l net x = true) : okB l net y = true := by
  unfold okB at *
  have := left_up hl hxy
  have h' := of_decide_eq_true h
  exact decide_eq_true (by omega)
theorem LeastIs.unique {l : List Bk} {net i j : Int} (h : LeastIs l net i) (h' : LeastIs l net j) : i = j := by
  obtain ⟨a1, a2, a3, a4⟩ := h
  obtain ⟨b1, b2, b3, b4⟩ := h'
  rcases (show i < j ∨ i = j ∨ j < i by omega) with e | e | e
  · have := b3 i a1 e
    rw [a4 (by omega)] at this
    cases this
  · exact e
  · have := a3 j b1 e
    rw [b4 (by omega)] at this
    cases this
set_option maxRecDepth 100000 in
set_option maxHeartbeats 1000000 in
theorem search_any (bt bn : Nat) (s : ByteArray) (a : Option Addr) (n cap : Nat) (l : List Bk) (net : Int) (w : World) (hT : TIs w bt s a n cap) (hN : w.cell? ⟨bn, 0, none⟩ = some (.int .i64 net)) (hc : CameB w a l) (hn : l.length = n) (hl : Right l) :
    Calls Try.prog 38 #[.int .i64 1000000000001, .func (.func 39) #[] #[.pointer (some ⟨bt, 0, none⟩), .pointer (some ⟨bn, 0, none⟩)]] w fun e w' => ∃ i : Int, e = .returned (.int .i64 i) ∧ LeastIs l net i ∧ Below w.heap.size w w' := by
  have HL := Lib.hid hl
  have HC := Lib.hid hc
  have HT := Lib.hid hT
  have HN := Lib.hid hN
  clear hT hc hl hN
  go_enter Try.func38, Try.ntmps38
  go_wp2_with fail
  go_loopw [5, 6] (fun lo hi wr => ∃ i j : Int, lo = .int .i64 i ∧ hi = .int .i64 j ∧ 0 ≤ i ∧ i ≤ j ∧ j ≤ 1000000000001 ∧ (∀ x, 0 ≤ x → x < i → okB l net x = false) ∧ (j ≤ 1000000000000 → okB l net j = true) ∧ Below w.heap.size w wr) (fun lo hi _ => (intOf hi - intOf lo).toNat)
  case atStart => exact ⟨0, 1000000000001, rfl, rfl, by omega, by omega, by omega, fun x h1 h2 => by omega, fun h => by omega, Below.refl _ _⟩
  case round =>
    obtain ⟨i, j, rfl, rfl, h0, hij, hj, hlow, hhigh, hb⟩ := hrel
    have HB := Lib.hid hb
    have HLo := Lib.hid hlow
    have HHi := Lib.hid hhigh
    clear hb hlow hhigh
    by_cases hlt : i < j
    · obtain ⟨m, hm⟩ : ∃ m, (i + j) / 2 = m := ⟨_, rfl⟩
      have hm1 : i ≤ m := by omega
      have hm2 : m < j := by omega
      go_wp2_with fail
      refine (left_any m bt bn s a n cap l net _ (HT.out.below HB.out HT.out.1) ((HB.out.cell (p := ⟨bn, 0, none⟩) (blt_of_cell HN.out)).trans HN.out) (HC.out.below HB.out) hn HL.out (by omega) (by omega)).mono ?_
      rintro e w1 ⟨rfl, hb1⟩
      have HB1 := Lib.hid (HB.out.trans (hb1.mono HB.out.size))
      clear hb1
      cases hok : okB l net m
      · go_wp2_with fail
        go_roundw
        case rel =>
          refine ⟨m + 1, j, by go_num, rfl, by omega, by omega, hj, fun x h1 h2 => ?_, HHi.out, HB1.out⟩
          cases hx : okB l net x
          · rfl
          · have := okB_up HL.out (y := m) (by omega) hx
            rw [hok] at this
            cases this
        case measure => simp [intOf]; omega
      · go_wp2_with fail
        go_roundw
        case rel => exact ⟨i, m, rfl, rfl, h0, hm1, by omega, HLo.out, fun _ => hok, HB1.out⟩
        case measure => simp [intOf]; omega
    · obtain rfl : i = j := by omega
      go_wp2_with fail
      go_ret
      exact ⟨i, rfl, ⟨h0, hj, HLo.out, HHi.out⟩, HB.out⟩
end Go.Proofs.Ytmiijmgidbbmhaa
