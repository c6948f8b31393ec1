/-
  The walks of the laws RunPlays and RunEyes: each answers true at every input.
-/
import Derived.Test.YtfdhjdbefikjmaaGPlay
import Derived.Deep.RegionHeld3
namespace Go.Proofs.Ytfdhjdbefikjmaa
open Go.RowKit

theorem gfrom_drew {w w' : World} (h : Below w.drew.heap.size w.drew w') : Below w.heap.size w w' := ⟨h.os, h.tape, h.output, h.size, h.block⟩
/-- How things stand in the loop. -/
def LBx (w : World) (g1 g : Nat) (Rn R : Nat → Int) (L : List Int) : Prop := RBox w g1 Rn ∧ RFull w (g1 + 1) R ∧ Own w g L
theorem LBx.below {w w' : World} {g1 g : Nat} {Rn R : Nat → Int} {L : List Int} (h : LBx w g1 g Rn R L) (hb : Below w.heap.size w w') : LBx w' g1 g Rn R L := ⟨h.1.below hb, h.2.1.below hb, h.2.2.below hb⟩
theorem RBox.other8 {w : World} {b b' : Nat} {S : Nat → Int} (h : RBox w b S) (hb : b ≠ b') (R : Nat → Int) : RBox (((((((((w).setCell ⟨b', 0, none⟩ (.int .i64 (R 0))).setCell ⟨b', 1, none⟩ (.int .i64 (R 1))).setCell ⟨b', 2, none⟩ (.int .i64 (R 2))).setCell ⟨b', 3, none⟩ (.int .i64 (R 3))).setCell ⟨b', 4, none⟩ (.int .i64 (R 4))).setCell ⟨b', 5, none⟩ (.int .i64 (R 5))).setCell ⟨b', 6, none⟩ (.int .i64 (R 6))).setCell ⟨b', 7, none⟩ (.int .i64 (R 7))) b S := by
  have hs : ∀ (v : World) (j : Nat) (u : Value), RBox v b S → RBox (v.setCell ⟨b', j, none⟩ u) b S := by
    intro v j u hv
    refine ⟨by have := hv.1; simpa [World.setCell] using this, fun i hi => ?_⟩
    rw [World.cell?_setCell_other (w := v) (h := fun x => hb (congrArg Addr.block x).symm)]
    exact hv.2 i hi
  exact hs _ _ _ (hs _ _ _ (hs _ _ _ (hs _ _ _ (hs _ _ _ (hs _ _ _ (hs _ _ _ (hs _ _ _ h)))))))
set_option maxRecDepth 100000 in
set_option maxHeartbeats 2000000 in
theorem walk_runPlays (a : Option Addr) (n cap : Nat) (l : List Ac) {w : World} (hc : CameAc w a l) (hn : l.length = n) (_ : n ≤ maxLen) (hwf : ∀ j, j < n → WfA (acnth l j)) (hm : n * 16 ≤ 140737488351232) :
    Calls Try.prog 6 #[.slice a n cap] w fun e w' => e = .returned (.bool true) ∧ Below w.heap.size w w' := by
  have HO := Lib.hid (fun h0 => hc.open hn h0)
  have HP := Lib.hid (Play_any a n cap l w hc hn hm hwf)
  have hm' : n ≤ 9223372036854775807 := by omega
  clear hc hwf hn
  go_enter Try.func6, Try.ntmps6
  go_wp2_with fail
  refine HP.out.mono ?_
  rintro e w1 ⟨g, rfl, ho1, hb1⟩
  have hgl : g < w1.heap.size := ho1.1
  have HX1 : Hid (LBx ((w1.alloc (.cells #[.int .i64 ((playR l n) 0), .int .i64 ((playR l n) 1), .int .i64 ((playR l n) 2), .int .i64 ((playR l n) 3), .int .i64 ((playR l n) 4), .int .i64 ((playR l n) 5), .int .i64 ((playR l n) 6), .int .i64 ((playR l n) 7)] 24)).alloc (.cells #[.int .i64 (zeroR 0), .int .i64 (zeroR 1), .int .i64 (zeroR 2), .int .i64 (zeroR 3), .int .i64 (zeroR 4), .int .i64 (zeroR 5), .int .i64 (zeroR 6), .int .i64 (zeroR 7)] 24)) w1.heap.size g (playR l n) (playR l 0) (saidL l n n)) := by
    have h2 := RFull.made (w1.alloc (.cells #[.int .i64 ((playR l n) 0), .int .i64 ((playR l n) 1), .int .i64 ((playR l n) 2), .int .i64 ((playR l n) 3), .int .i64 ((playR l n) 4), .int .i64 ((playR l n) 5), .int .i64 ((playR l n) 6), .int .i64 ((playR l n) 7)] 24)) zeroR 24
    rw [show (w1.alloc (.cells #[.int .i64 ((playR l n) 0), .int .i64 ((playR l n) 1), .int .i64 ((playR l n) 2), .int .i64 ((playR l n) 3), .int .i64 ((playR l n) 4), .int .i64 ((playR l n) 5), .int .i64 ((playR l n) 6), .int .i64 ((playR l n) 7)] 24)).heap.size = w1.heap.size + 1 by simp] at h2
    exact ⟨(RBox.made w1 _ _).below (gbelow_box _ _), h2, (ho1.below (gbelow_box _ _)).below (gbelow_box _ _)⟩
  have HB1 := Lib.hid ((hb1.alloc hb1.size (.cells #[.int .i64 ((playR l n) 0), .int .i64 ((playR l n) 1), .int .i64 ((playR l n) 2), .int .i64 ((playR l n) 3), .int .i64 ((playR l n) 4), .int .i64 ((playR l n) 5), .int .i64 ((playR l n) 6), .int .i64 ((playR l n) 7)] 24)).alloc (by have := hb1.size; simp; omega) (.cells #[.int .i64 (zeroR 0), .int .i64 (zeroR 1), .int .i64 (zeroR 2), .int .i64 (zeroR 3), .int .i64 (zeroR 4), .int .i64 (zeroR 5), .int .i64 (zeroR 6), .int .i64 (zeroR 7)] 24))
  have HW1 := Lib.hid hb1.size
  clear ho1 hb1 HP
  have hnn : ((n : Int) != (n : Int)) = false := by simp
  go_wp2_with fail
  refine (begun_any _).mono ?_
  rintro e w2 ⟨rfl, hb2⟩
  have HX2 := Lib.hid (HX1.out.below hb2)
  have HB2 := Lib.hid (HB1.out.trans (hb2.mono HB1.out.size))
  clear hb2 HX1 HB1
  go_wp2_with fail
  go_loopw [6] (fun i wr => ∃ k : Nat, k ≤ n ∧ i = .int .i64 k ∧ LBx wr w1.heap.size g (playR l n) (playR l k) (saidL l n n) ∧ Below w.heap.size w wr) (fun i _ => n - (intOf i).toNat)
  case atStart => exact ⟨0, Nat.zero_le _, rfl, HX2.out, HB2.out⟩
  case round =>
    clear HX2 HB2
    obtain ⟨k, hk, rfl, hx, hb⟩ := hrel
    have HX := Lib.hid hx
    have HB := Lib.hid hb
    clear hx hb
    by_cases hlt : k < n
    · have hlt' : (k : Int) < (n : Int) := by omega
      have hge' : (0 : Int) ≤ (k : Int) := by omega
      obtain ⟨b, off, rfl, hbl, hcell⟩ := HO.out (by omega)
      obtain ⟨x0, x1⟩ := hcell wr HB.out k hlt
      have HCELL : Hid (∀ w', Below w.heap.size w w' → w'.cell? ⟨b, off + k * 2, none⟩ = some (.int .i64 (acnth l k).act) ∧ w'.cell? ⟨b, off + k * 2 + 1, none⟩ = some (.int .i64 (acnth l k).who)) := fun w' h => hcell w' h k hlt
      clear hcell
      have HK := Lib.hid (fun w => stepRun_ref (playR l k) (acnth l k).act (acnth l k).who w)
      have HS1 : Hid (stepR (playR l k) (acnth l k).act (acnth l k).who = playR l (k + 1)) := rfl
      have HS2 : Hid (stepE (playR l k) (acnth l k).act (acnth l k).who = playE l k) := rfl
      rw [HS1.out, HS2.out] at HK
      clear HS1 HS2
      have HE : Hid (nth (saidL l n n) k = playE l k) := by unfold Hid; rw [saidL_nth l hlt, if_pos hlt]
      generalize hS : playR l (k + 1) = S at *
      have HSS := Lib.hid hS
      clear hS
      have HLN := Lib.hid (saidL_len l n n)
      generalize saidL l n n = L at *
      generalize playR l n = Rn at *
      generalize playE l k = er at *
      generalize playR l k = R at *
      generalize (acnth l k).act = ac at *
      generalize (acnth l k).who = wh at *
      obtain ⟨c0, c1, c2, c3, c4, c5, c6, c7⟩ := HX.out.2.1.box.cells
      go_wp2_with fail
      go_region_held3 (fun w' => w'.cell? ⟨w1.heap.size + 1, 0, none⟩ = some (.int .i64 (R 0)) ∧ w'.cell? ⟨w1.heap.size + 1, 1, none⟩ = some (.int .i64 (R 1)) ∧ w'.cell? ⟨w1.heap.size + 1, 2, none⟩ = some (.int .i64 (R 2)) ∧ w'.cell? ⟨w1.heap.size + 1, 3, none⟩ = some (.int .i64 (R 3)) ∧ w'.cell? ⟨w1.heap.size + 1, 4, none⟩ = some (.int .i64 (R 4)) ∧ w'.cell? ⟨w1.heap.size + 1, 5, none⟩ = some (.int .i64 (R 5)) ∧ w'.cell? ⟨w1.heap.size + 1, 6, none⟩ = some (.int .i64 (R 6)) ∧ w'.cell? ⟨w1.heap.size + 1, 7, none⟩ = some (.int .i64 (R 7)) ∧ w'.cell? ⟨b, off + k * 2, none⟩ = some (.int .i64 ac) ∧ w'.cell? ⟨b, off + k * 2 + 1, none⟩ = some (.int .i64 wh)) (go_keep)
        (first
        | (go_at_call 13; refine (HK.out _).mono ?_; rintro e w3 ⟨rfl, hb3⟩
           have HB3 := Lib.hid (HB.out.trans ((gfrom_drew hb3).mono HB.out.size))
           have HX3 := Lib.hid (HX.out.below (gfrom_drew hb3))
           obtain ⟨d0, d1, d2, d3, d4, d5, d6, d7⟩ := HX3.out.2.1.box.cells
           obtain ⟨y0, y1⟩ := HCELL.out w3 HB3.out
           have n1 : w1.heap.size + 1 < w3.heap.size := HX3.out.2.1.1
           have n2 : b < w3.heap.size := Nat.lt_of_lt_of_le hbl HB3.out.size
           have m1 : w3.heap.size ≠ w1.heap.size + 1 := by omega
           have m2 : w3.heap.size ≠ b := by omega
           clear hb3)
        | (go_at_call 13; refine (HK.out _).mono ?_; rintro e w3 ⟨rfl, hb3⟩
           have hq := (gbelow_box wr (.cells #[.int .i64 (zeroR 0), .int .i64 (zeroR 1), .int .i64 (zeroR 2), .int .i64 (zeroR 3), .int .i64 (zeroR 4), .int .i64 (zeroR 5), .int .i64 (zeroR 6), .int .i64 (zeroR 7)] 24)).trans ((gfrom_drew hb3).mono (gbelow_box wr (.cells #[.int .i64 (zeroR 0), .int .i64 (zeroR 1), .int .i64 (zeroR 2), .int .i64 (zeroR 3), .int .i64 (zeroR 4), .int .i64 (zeroR 5), .int .i64 (zeroR 6), .int .i64 (zeroR 7)] 24)).size)
           have HB3 := Lib.hid (HB.out.trans (hq.mono HB.out.size))
           have HX3 := Lib.hid (HX.out.below hq)
           have HZ3 := Lib.hid ((RFull.made wr zeroR 24).below (gfrom_drew hb3))
           obtain ⟨d0, d1, d2, d3, d4, d5, d6, d7⟩ := HX3.out.2.1.box.cells
           obtain ⟨z0, z1, z2, z3, z4, z5, z6, z7⟩ := HZ3.out.box.cells
           obtain ⟨f0, f1, f2, f3, f4, f5, f6, f7⟩ := HZ3.out.free
           obtain ⟨y0, y1⟩ := HCELL.out w3 HB3.out
           have m1 : wr.heap.size ≠ w1.heap.size + 1 := by have := HX.out.2.1.1; omega
           have m2 : wr.heap.size ≠ b := by have := HB.out.size; omega
           clear hb3 hq))
      all_goals (clear c0 c1 c2 c3 c4 c5 c6 c7 x0 x1 y0 y1 d0 d1 d2 d3 d4 d5 d6 d7)
      · have HXw := Lib.hid (HX3.out.below (gbelow_box w3 (.cells #[.int .i64 (S 0), .int .i64 (S 1), .int .i64 (S 2), .int .i64 (S 3), .int .i64 (S 4), .int .i64 (S 5), .int .i64 (S 6), .int .i64 (S 7)] 24)))
        have HBw := Lib.hid (HB3.out.alloc HB3.out.size (.cells #[.int .i64 (S 0), .int .i64 (S 1), .int .i64 (S 2), .int .i64 (S 3), .int .i64 (S 4), .int .i64 (S 5), .int .i64 (S 6), .int .i64 (S 7)] 24))
        have HSw := Lib.hid (RBox.made w3 S 24)
        have hpn : w3.heap.size ≠ w1.heap.size + 1 := m1
        clear m1 m2 n1 n2 HX3 HB3
        generalize (w3.alloc (.cells #[.int .i64 (S 0), .int .i64 (S 1), .int .i64 (S 2), .int .i64 (S 3), .int .i64 (S 4), .int .i64 (S 5), .int .i64 (S 6), .int .i64 (S 7)] 24)) = wx at *
        generalize w3.heap.size = p7 at *
        obtain ⟨h1, h2, h3⟩ := HXw.out
        obtain ⟨c0, c1, c2, c3, c4, c5, c6, c7⟩ := h2.box.cells
        obtain ⟨f0, f1, f2, f3, f4, f5, f6, f7⟩ := h2.free
        obtain ⟨q0, q1, q2, q3, q4, q5, q6, q7⟩ := HSw.out.cells
        have o1 := h3.cell (j := k) (by rw [HLN.out]; exact hlt)
        rw [HE.out] at o1
        have hee : (er != er) = false := by simp
        have HR8 : Hid (LBx (((((((((wx).setCell ⟨w1.heap.size + 1, 0, none⟩ (.int .i64 (S 0))).setCell ⟨w1.heap.size + 1, 1, none⟩ (.int .i64 (S 1))).setCell ⟨w1.heap.size + 1, 2, none⟩ (.int .i64 (S 2))).setCell ⟨w1.heap.size + 1, 3, none⟩ (.int .i64 (S 3))).setCell ⟨w1.heap.size + 1, 4, none⟩ (.int .i64 (S 4))).setCell ⟨w1.heap.size + 1, 5, none⟩ (.int .i64 (S 5))).setCell ⟨w1.heap.size + 1, 6, none⟩ (.int .i64 (S 6))).setCell ⟨w1.heap.size + 1, 7, none⟩ (.int .i64 (S 7))) w1.heap.size g Rn S L) := ⟨h1.other8 (by omega) S, h2.set8 S, h3.other8 (by omega) S⟩
        have HB8 := Lib.hid (below_set8 HBw.out (b := w1.heap.size + 1) (by have := HW1.out; omega) S)
        clear h1 h2 h3
        go_wp2_with fail
        go_roundw
        case rel => exact ⟨k + 1, by omega, by go_num, by rw [HSS.out]; exact HR8.out, HB8.out⟩
        case measure => simp [intOf]; omega
      · have HXw : Hid (LBx (((((((((w3).setCell ⟨wr.heap.size, 0, none⟩ (.int .i64 (S 0))).setCell ⟨wr.heap.size, 1, none⟩ (.int .i64 (S 1))).setCell ⟨wr.heap.size, 2, none⟩ (.int .i64 (S 2))).setCell ⟨wr.heap.size, 3, none⟩ (.int .i64 (S 3))).setCell ⟨wr.heap.size, 4, none⟩ (.int .i64 (S 4))).setCell ⟨wr.heap.size, 5, none⟩ (.int .i64 (S 5))).setCell ⟨wr.heap.size, 6, none⟩ (.int .i64 (S 6))).setCell ⟨wr.heap.size, 7, none⟩ (.int .i64 (S 7))) w1.heap.size g Rn R L) := by
          have q1 := HX.out.2.1.1
          exact ⟨HX3.out.1.other8 (by omega) S, HX3.out.2.1.other8 (by omega) S, HX3.out.2.2.other8 (by omega) S⟩
        have HBw := Lib.hid (below_set8 HB3.out HB.out.size S)
        have HSw := Lib.hid (HZ3.out.set8 S).box
        have hpn : wr.heap.size ≠ w1.heap.size + 1 := m1
        clear m1 m2 HX3 HB3 z0 z1 z2 z3 z4 z5 z6 z7 f0 f1 f2 f3 f4 f5 f6 f7 HZ3
        generalize (((((((((w3).setCell ⟨wr.heap.size, 0, none⟩ (.int .i64 (S 0))).setCell ⟨wr.heap.size, 1, none⟩ (.int .i64 (S 1))).setCell ⟨wr.heap.size, 2, none⟩ (.int .i64 (S 2))).setCell ⟨wr.heap.size, 3, none⟩ (.int .i64 (S 3))).setCell ⟨wr.heap.size, 4, none⟩ (.int .i64 (S 4))).setCell ⟨wr.heap.size, 5, none⟩ (.int .i64 (S 5))).setCell ⟨wr.heap.size, 6, none⟩ (.int .i64 (S 6))).setCell ⟨wr.heap.size, 7, none⟩ (.int .i64 (S 7))) = wx at *
        generalize wr.heap.size = p7 at *
        obtain ⟨h1, h2, h3⟩ := HXw.out
        obtain ⟨c0, c1, c2, c3, c4, c5, c6, c7⟩ := h2.box.cells
        obtain ⟨f0, f1, f2, f3, f4, f5, f6, f7⟩ := h2.free
        obtain ⟨q0, q1, q2, q3, q4, q5, q6, q7⟩ := HSw.out.cells
        have o1 := h3.cell (j := k) (by rw [HLN.out]; exact hlt)
        rw [HE.out] at o1
        have hee : (er != er) = false := by simp
        have HR8 : Hid (LBx (((((((((wx).setCell ⟨w1.heap.size + 1, 0, none⟩ (.int .i64 (S 0))).setCell ⟨w1.heap.size + 1, 1, none⟩ (.int .i64 (S 1))).setCell ⟨w1.heap.size + 1, 2, none⟩ (.int .i64 (S 2))).setCell ⟨w1.heap.size + 1, 3, none⟩ (.int .i64 (S 3))).setCell ⟨w1.heap.size + 1, 4, none⟩ (.int .i64 (S 4))).setCell ⟨w1.heap.size + 1, 5, none⟩ (.int .i64 (S 5))).setCell ⟨w1.heap.size + 1, 6, none⟩ (.int .i64 (S 6))).setCell ⟨w1.heap.size + 1, 7, none⟩ (.int .i64 (S 7))) w1.heap.size g Rn S L) := ⟨h1.other8 (by omega) S, h2.set8 S, h3.other8 (by omega) S⟩
        have HB8 := Lib.hid (below_set8 HBw.out (b := w1.heap.size + 1) (by have := HW1.out; omega) S)
        clear h1 h2 h3
        go_wp2_with fail
        go_roundw
        case rel => exact ⟨k + 1, by omega, by go_num, by rw [HSS.out]; exact HR8.out, HB8.out⟩
        case measure => simp [intOf]; omega
    · obtain rfl : n = k := by omega
      obtain ⟨h1, h2, _⟩ := HX.out
      generalize playR l n = Rn at *
      obtain ⟨c0, c1, c2, c3, c4, c5, c6, c7⟩ := h1.cells
      obtain ⟨d0, d1, d2, d3, d4, d5, d6, d7⟩ := h2.box.cells
      have heq := eq_who wr Rn
      clear h1 h2
      go_wp2_with fail
      go_ret
      exact ⟨gret_bool (by simp), HB.out⟩
end Go.Proofs.Ytfdhjdbefikjmaa
