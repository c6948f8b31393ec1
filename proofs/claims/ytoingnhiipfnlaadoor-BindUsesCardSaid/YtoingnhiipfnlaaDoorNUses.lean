/-
  Promise H3: on which lines a line hangs: the walk of hangsOn.
-/
import Derived.Test.YtoingnhiipfnlaaDoorNHang
import Derived.Test.YtoingnhiipfnlaaDoorMGrow
import Derived.Deep.OwnRows
import Derived.Laws.OwnMore
namespace Go.Proofs.YtoingnhiipfnlaaDoor
open Go.RowKit Go.Maps Go.WideMaps

theorem info_b : (Tryd.prog.info? 4).map (fun i => (i.zero, i.size, i.bytes)) = some (some (.bool false), 1, 1) := by kernel_rfl
theorem URow.made (w : World) (n : Nat) : URow (w.alloc (.cells (madeCells #[.bool false] n) 4)) w.heap.size n (fun _ => false) := by
  refine ⟨by simp, fun j hj => ⟨?_, by simp⟩⟩
  simp
  rw [← Array.getElem?_toList, toList_madeCells_one, List.getElem?_replicate, if_pos hj]
theorem URow.kept {w w' : World} {ub n : Nat} {u : Nat → Bool} {row : Option Nat} (h : URow w ub n u) (hg : w.grownBy w' row) (hne : some ub ≠ row) : URow w' ub n u := by
  have e := hg.block ub h.1 hne
  exact ⟨Nat.lt_of_lt_of_le h.1 hg.size, fun j hj => ⟨by rw [World.cell?_of_block (w := w) e]; exact (h.2 j hj).1, by rw [World.frozen?_of_block (w := w) e]; exact (h.2 j hj).2⟩⟩
/-- The places below n that are so. -/
def placesOf (u : Nat → Bool) : Nat → List Int
  | 0 => []
  | j + 1 => if u j = true then placesOf u j ++ [(j : Int)] else placesOf u j
theorem placesOf_len (u : Nat → Bool) (n : Nat) : (placesOf u n).length ≤ n := by
  induction n with
  | zero => exact Nat.le_refl _
  | succ q ih => 
    simp only [placesOf]
    split
    · simp; omega
    · omega
theorem usedN_succ (l : List Ln) (last t j : Nat) : usedN l last (t + 1) j = if t = 0 ∨ usedN l last t (last - t) = true then usedN l last t j || directB l (last - t) j else usedN l last t j := rfl
def UsesIs (w : World) (l : List Ln) (last : Nat) (e : Ending) (w' : World) : Prop := ∃ v, e = .returned v ∧ Grow w' (w.heap.size + 1) v (placesOf (usedN l last (last + 1)) last) ∧ Below w.heap.size w w'
set_option maxRecDepth 100000 in
set_option maxHeartbeats 1000000 in
theorem hangsOn_any (a : Option Addr) (q cap : Nat) (l : List Ln) (w : World) (hl : CameL w a l) (hn : l.length = q + 1) (hm : q < 40) (hcap : q + 1 ≤ cap) (hcm : cap ≤ maxLen) :
    Calls Tryd.prog 36 #[.slice a ((q + 1 : Nat)) cap] w fun e w' => UsesIs w l q e w' := by
  have HL := Lib.hid hl
  have HN := Lib.hid hn
  have HCM := Lib.hid hcm
  have hmk := run_make_row' (P := Tryd.prog) 75 4 (.bool false) 1 Tryd.underlying75 info_b rfl .i64 .i64 q (by omega) (by omega)
  clear hl hn hcm
  have HU0 := Lib.hid (URow.made w q)
  have HB0 := Lib.hid (kbelow_box w (.cells (madeCells #[.bool false] q) 4))
  go_enter Tryd.func36, Tryd.ntmps36
  go_wp2_with fail
  go_loopw [5] (fun i wr => ∃ t : Nat, t ≤ q + 1 ∧ i = .int .i64 ((q : Int) - t) ∧ URow wr w.heap.size q (usedN l q t) ∧ Below w.heap.size w wr) (fun i _ => (intOf i + 1).toNat)
  case atStart => exact ⟨0, Nat.zero_le _, by go_num, HU0.out, HB0.out⟩
  case round =>
    clear HU0 HB0
    obtain ⟨t, ht, rfl, hu, hb⟩ := hrel
    have HU := Lib.hid hu
    have HB := Lib.hid hb
    clear hu hb
    by_cases hlt : t ≤ q
    · obtain ⟨p, hpq⟩ : ∃ p : Nat, p = q - t := ⟨_, rfl⟩
      rw [show (q : Int) - (t : Int) = (p : Int) by omega]
      have HS : Hid (∀ j, usedN l q (t + 1) j = if t = 0 ∨ usedN l q t p = true then usedN l q t j || directB l p j else usedN l q t j) := fun j => by rw [usedN_succ, ← hpq]
      have hple : p ≤ q := by omega
      have hmeas : Hid (p + t = q) := by unfold Hid; omega
      by_cases h0 : t = 0
      · have HT : Hid (t = 0 ∨ usedN l q t p = true) := .inl h0
        have hpe : q = p := by omega
        clear hpq
        subst hpe
        go_wp2_with fail
        refine (markUsed_any a (q + 1) cap l q w.heap.size q _ w _ HL.out HN.out (by omega) hcap HCM.out (by omega) (by omega) (by omega) HB.out (Nat.le_refl _) HU.out).mono ?_
        rintro e w2 ⟨⟨v, rfl⟩, hu2, hg2⟩
        have HB2 := Lib.hid (grown_below HB.out hg2 (Nat.le_refl _))
        have HU2 : Hid (URow w2 w.heap.size q (usedN l q (t + 1))) := hu2.congr (fun j _ => by rw [HS.out j, if_pos HT.out])
        clear hu2 hg2
        go_wp2_with fail
        go_roundw
        case rel => exact ⟨t + 1, by have := hmeas.out; omega, by have := hmeas.out; go_num, HU2.out, HB2.out⟩
        case measure => simp [intOf]
      · have HPL : Hid (p < q) := by unfold Hid; omega
        have hplt := HPL.out
        clear hpq
        have hneB : decide ((p : Int) = (q : Int)) = false := decide_eq_false (by omega)
        have hneE : ((p : Int) == (q : Int)) = false := by simp; omega
        have hneD : decide (p = q) = false := decide_eq_false (by omega)
        have hneF : (p == q) = false := by simp; omega
        have hlt' : (p : Int) < (q : Int) := by omega
        have hp0 : (0 : Int) ≤ (p : Int) := by omega
        obtain ⟨r0, _⟩ := HU.out.2 p (by omega)
        cases hv : usedN l q t p
        · rw [hv] at r0
          have HU2 : Hid (URow wr w.heap.size q (usedN l q (t + 1))) := HU.out.congr (fun j _ => by rw [HS.out j, if_neg (by simp [h0, hv])])
          clear hv
          go_wp2_with fail
          go_roundw
          case rel => exact ⟨t + 1, by omega, by have := hmeas.out; go_num, HU2.out, HB.out⟩
          case measure => simp [intOf]
        · rw [hv] at r0
          have HT : Hid (t = 0 ∨ usedN l q t p = true) := .inr hv
          clear hv
          go_wp2_with fail
          refine (markUsed_any a (q + 1) cap l p w.heap.size q _ w _ HL.out HN.out (by omega) hcap HCM.out (by omega) (by omega) (by omega) HB.out (Nat.le_refl _) HU.out).mono ?_
          rintro e w2 ⟨⟨v, rfl⟩, hu2, hg2⟩
          have HB2 := Lib.hid (grown_below HB.out hg2 (Nat.le_refl _))
          have HU2 : Hid (URow w2 w.heap.size q (usedN l q (t + 1))) := hu2.congr (fun j _ => by rw [HS.out j, if_pos HT.out])
          clear hu2 hg2
          go_wp2_with fail
          go_roundw
          case rel => exact ⟨t + 1, by have := hmeas.out; omega, by have := hmeas.out; go_num, HU2.out, HB2.out⟩
          case measure => simp [intOf]
    · have hte : t = q + 1 := by omega
      have HUF : Hid (URow wr w.heap.size q (usedN l q (q + 1))) := by rw [← hte]; exact HU.out
      have hneg : (q : Int) - (t : Int) < 0 := by omega
      have hnegB : decide (0 ≤ (q : Int) - (t : Int)) = false := decide_eq_false (by omega)
      have HB0 := HB
      clear HU HB hte ht hlt
      go_wp2_with fail
      generalize (q : Int) - (t : Int) = zt at *
      clear hneg hnegB
      generalize decide (t ≤ q) = bt at *
      obtain ⟨uu, huu⟩ : ∃ uu, uu = usedN l q (q + 1) := ⟨_, rfl⟩
      rw [← huu] at HUF
      have HUU := Lib.hid huu
      clear huu
      go_loopw [6, 34] (fun sv i wq => ∃ j : Nat, j ≤ q ∧ i = .int .i64 j ∧ Grow wq (w.heap.size + 1) sv (placesOf uu j) ∧ URow wq w.heap.size q uu ∧ Below w.heap.size w wq) (fun _ i _ => q - (intOf i).toNat)
      case atStart => exact ⟨0, Nat.zero_le _, rfl, Grow.nil _ _, HUF.out, HB0.out⟩
      case round =>
        clear HUF HB0
        generalize wr = wr0 at *
        obtain ⟨j, hj, rfl, hgr, hu, hb⟩ := hrel
        have HG := Lib.hid hgr
        have HU := Lib.hid hu
        have HB := Lib.hid hb
        clear hgr hu hb
        by_cases hlt : j < q
        · have hlt' : (j : Int) < (q : Int) := by omega
          obtain ⟨r0, _⟩ := HU.out.2 j hlt
          have hlen := placesOf_len uu j
          have HSZ := Lib.hid HU.out.1
          cases hv : uu j
          · rw [hv] at r0
            have HP : Hid (placesOf uu (j + 1) = placesOf uu j) := by unfold Hid; simp [placesOf, hv]
            clear hv
            go_wp2_with fail
            go_roundw
            case rel => exact ⟨j + 1, by omega, by go_num, by rw [HP.out]; exact HG.out, HU.out, HB.out⟩
            case measure => simp [intOf]; omega
          · rw [hv] at r0
            have HP : Hid (placesOf uu (j + 1) = placesOf uu j ++ [(j : Int)]) := by unfold Hid; simp [placesOf, hv]
            clear hv
            go_wp2_with (at_builtin; refine wpList_app _ rfl _ _ rfl (w.heap.size + 1) _ (placesOf uu j) rfl ?hgw ⟨_, 0, none⟩ 1 (j : Int) rfl ?hz ?hl ?hB ?_; rotate_right; intro v9 w9 hg9 hgr9 hd9 hs9; refine Hid.out ?_)
            case hgw => exact HG.out.alloc _
            case hz => simp
            case hl => omega
            case hB => have := HSZ.out; simp; omega
            have HB9 := Lib.hid ((HB.out.alloc HB.out.size _).grown hgr9 (by have := HB.out.size; simp; omega) (fun i hi => by have := (HG.out.lt i hi).1; omega))
            have HU9 := Lib.hid ((HU.out.below (kbelow_box _ _)).kept hgr9 (by intro e; have := (HG.out.lt _ e.symm).1; omega))
            have HG9 := Lib.hid hg9
            clear hg9 hgr9 hd9 hs9 r0
            refine Lib.hid ?_
            go_wp2_with fail
            go_roundw
            case rel => exact ⟨j + 1, by omega, by go_num, by rw [HP.out]; exact HG9.out, HU9.out, HB9.out⟩
            case measure => simp [intOf]; omega
        · have hjq : j = q := by omega
          subst hjq
          go_wp2_with fail
          go_ret
          exact ⟨_, rfl, by rw [← HUU.out]; exact HG.out, HB.out⟩
end Go.Proofs.YtoingnhiipfnlaaDoor
