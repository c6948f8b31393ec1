/-
  Promise G4: two tables together: walks of together, of the search for a rate that is too high, and of Both.
-/
import Derived.Test.YtmiijmgidbbmhaaKFromsW
namespace Go.Proofs.Ytmiijmgidbbmhaa
open Go.RowKit

/-- The brackets of both tables together. -/
def bothL (l m : List Bk) : List Bk := (fromsL l m).map fun f => ⟨f, rateN l (f + 1) + rateN m (f + 1)⟩
theorem froms_mem (l m : List Bk) (x : Int) : x ∈ fromsL l m ↔ (∃ j, j < l.length ∧ (bnth l j).frm = x) ∨ (∃ j, j < m.length ∧ (bnth m j).frm = x) := by
  unfold fromsL
  rw [(compact_rises _).1 x, List.mem_append, List.mem_map, List.mem_map]
  have key : ∀ l : List Bk, (∃ a, a ∈ l ∧ a.frm = x) ↔ ∃ j, j < l.length ∧ (bnth l j).frm = x := fun l => by
    constructor
    · rintro ⟨a, ha, e⟩
      obtain ⟨j, hj, rfl⟩ := List.mem_iff_getElem.1 ha
      exact ⟨j, hj, by rw [← frm_nth l hj]; exact e⟩
    · rintro ⟨j, hj, e⟩
      exact ⟨l[j], List.getElem_mem hj, by rw [frm_nth l hj]; exact e⟩
  rw [key l, key m]
theorem froms_money {l m : List Bk} (hl : Right l) (hm : Right m) {j : Nat} (hj : j < (fromsL l m).length) : 0 ≤ nth (fromsL l m) j ∧ nth (fromsL l m) j ≤ 1000000000000 := by
  have hmem : nth (fromsL l m) j ∈ fromsL l m := by
    unfold nth
    rw [List.getD_eq_getElem?_getD, List.getElem?_eq_getElem hj]
    exact List.getElem_mem hj
  rcases (froms_mem l m _).1 hmem with ⟨i, hi, e⟩ | ⟨i, hi, e⟩
  · have := right_nth hl hi; omega
  · have := right_nth hm hi; omega
theorem froms_len (l m : List Bk) : (fromsL l m).length ≤ l.length + m.length := by
  have h1 := Lib.compact_length_le (sortI (l.map Bk.frm ++ m.map Bk.frm))
  have h2 : (sortI (l.map Bk.frm ++ m.map Bk.frm)).length = (l.map Bk.frm ++ m.map Bk.frm).length := List.length_mergeSort _
  rw [List.length_append, List.length_map, List.length_map] at h2
  unfold fromsL
  omega
theorem both_len (l m : List Bk) : (bothL l m).length = (fromsL l m).length := by unfold bothL; rw [List.length_map]
theorem both_nth (l m : List Bk) {j : Nat} (hj : j < (fromsL l m).length) : bnth (bothL l m) j = ⟨nth (fromsL l m) j, rateN l (nth (fromsL l m) j + 1) + rateN m (nth (fromsL l m) j + 1)⟩ := by
  simp [bnth, bothL, nth, List.getD_eq_getElem?_getD, hj]
theorem both_take (l m : List Bk) {k : Nat} (hk : k < (fromsL l m).length) : (bothL l m).take (k + 1) = (bothL l m).take k ++ [⟨nth (fromsL l m) k, rateN l (nth (fromsL l m) k + 1) + rateN m (nth (fromsL l m) k + 1)⟩] := by
  rw [List.take_succ_eq_append_getElem (by rw [both_len]; exact hk)]
  congr 2
  have := both_nth l m hk
  simpa [bnth, List.getD_eq_getElem?_getD, both_len, hk] using this
set_option maxRecDepth 100000 in
set_option maxHeartbeats 1000000 in
theorem together_any (b1 o1 n1 c1 b2 o2 n2 c2 : Nat) (l m : List Bk) (w : World) (h1 : BAt w b1 o1 l) (h2 : BAt w b2 o2 m) (e1 : l.length = n1) (e2 : m.length = n2) (hl : Right l) (hm : Right m) :
    Calls Try.prog 40 #[.slice (some ⟨b1, o1, none⟩) n1 c1, .slice (some ⟨b2, o2, none⟩) n2 c2] w fun e w' => ∃ v, e = .returned v ∧ GrowB w' w.heap.size v (bothL l m) ∧ Below w.heap.size w w' := by
  have H1 := Lib.hid h1
  have H2 := Lib.hid h2
  have HL := Lib.hid hl
  have HM := Lib.hid hm
  have k1 : 1 ≤ n1 := by rw [← e1]; exact hl.1
  have k1' : n1 ≤ 12 := by rw [← e1]; exact hl.2.1
  have k2 : 1 ≤ n2 := by rw [← e2]; exact hm.1
  have k2' : n2 ≤ 12 := by rw [← e2]; exact hm.2.1
  clear h1 h2 hl hm
  have hmk := make_bks (n1 + n2) (by omega) w
  rw [show ((n1 + n2 : Nat) : Int) = (n1 : Int) + (n2 : Int) by omega] at hmk
  go_enter Try.func40, Try.ntmps40
  go_wp2_with fail
  clear hmk
  have HG0 : Hid (GrowB (w.alloc (.cells (madeCells #[.int .i64 0, .int .i64 0] ((n1 + n2) * 2)) 43)) w.heap.size (.slice (some ⟨w.heap.size, 0, none⟩) 0 (n1 + n2)) []) := World.ownsRow_made (w := w) _ (n1 + n2) (Nat.le_refl _) (by unfold maxLen; omega) (by rw [size_madeCells])
  have HB0 := Lib.hid (kbelow_box w (.cells (madeCells #[.int .i64 0, .int .i64 0] ((n1 + n2) * 2)) 43))
  generalize w.alloc (.cells (madeCells #[.int .i64 0, .int .i64 0] ((n1 + n2) * 2)) 43) = W at *
  refine (allFroms_any b1 o1 n1 c1 b2 o2 n2 c2 l m W (H1.out.below HB0.out H1.out.1) (H2.out.below HB0.out H2.out.1) e1 e2 k1 k1' k2 k2').mono ?_
  rintro e w1 ⟨g, c, rfl, hat, hgW, hb⟩
  have HAT := Lib.hid hat
  have HG1 := Lib.hid (HG0.out.below hb)
  have HB1 := Lib.hid (HB0.out.trans (hb.mono HB0.out.size))
  have hW := HG0.out.lt w.heap.size rfl
  clear hat hb HG0
  have hfl := froms_len l m
  go_wp2_with fail
  go_loopw [5, 18] (fun z i wr => ∃ k : Nat, k ≤ (fromsL l m).length ∧ i = .int .i64 k ∧ GrowB wr w.heap.size z ((bothL l m).take k) ∧ z.ownBlock ≠ some g ∧ At wr g 0 (fromsL l m) ∧ Below w.heap.size w wr) (fun _ i _ => (fromsL l m).length - (intOf i).toNat)
  case atStart => exact ⟨0, Nat.zero_le _, rfl, HG1.out, by simp [Value.ownBlock]; omega, HAT.out, HB1.out⟩
  case round =>
    obtain ⟨k, hk, rfl, hz, hne, hat, hbr⟩ := hrel
    obtain ⟨x, c', rfl, _⟩ := hz.slice
    have htl : ((bothL l m).take k).length = k := by rw [List.length_take, both_len]; omega
    rw [htl] at hz hne
    rw [htl]
    have HZ := Lib.hid hz
    have HA := Lib.hid hat
    have HBR := Lib.hid hbr
    clear hz hat hbr
    by_cases hlt : k < (fromsL l m).length
    · have hlt' : (k : Int) < ((fromsL l m).length : Int) := by omega
      have x0 := HA.out.cell hlt
      rw [Nat.zero_add] at x0
      have hmon := froms_money HL.out HM.out hlt
      have HT := Lib.hid (both_take l m hlt)
      have hr1 := rU_bd HL.out (nth (fromsL l m) k + 1) l.length (Nat.le_refl _)
      have hr2 := rU_bd HM.out (nth (fromsL l m) k + 1) m.length (Nat.le_refl _)
      have hr1' : 0 ≤ rateN l (nth (fromsL l m) k + 1) ∧ rateN l (nth (fromsL l m) k + 1) ≤ 10000 := hr1
      have hr2' : 0 ≤ rateN m (nth (fromsL l m) k + 1) ∧ rateN m (nth (fromsL l m) k + 1) ≤ 10000 := hr2
      clear hr1 hr2
      have hgw : g < wr.heap.size := HA.out.1
      have H1r := Lib.hid (H1.out.below HBR.out H1.out.1)
      have H2r := Lib.hid (H2.out.below HBR.out H2.out.1)
      generalize hf : nth (fromsL l m) k = f at *
      go_wp2_with fail
      refine (rateUpTo_any _ n1 c1 l (f + 1) _ (.inr ⟨b1, o1, rfl, H1r.out⟩) e1 k1 k1').mono ?_
      rintro e w3 ⟨rfl, hb3⟩
      have HB3 := Lib.hid hb3
      clear hb3
      generalize hra : rateN l (f + 1) = ra at *
      go_wp2_with fail
      refine (rateUpTo_any _ n2 c2 m (f + 1) _ (.inr ⟨b2, o2, rfl, H2r.out.below HB3.out H2r.out.1⟩) e2 k2 k2').mono ?_
      rintro e w4 ⟨rfl, hb4⟩
      have HB4 := Lib.hid (HB3.out.trans (hb4.mono HB3.out.size))
      clear hb4 HB3
      generalize hrb : rateN m (f + 1) = rb at *
      have hs4 := HB4.out.size
      have HZ4 := Lib.hid (HZ.out.below HB4.out)
      go_wp2_with (at_builtin; refine wpList_app_bks _ rfl _ _ rfl w.heap.size _ ((bothL l m).take k) rfl ?hgw w4.heap.size 0 1 1 [⟨f, ra + rb⟩] rfl ?hcm rfl ?hbd ?hB ?_; rotate_right; intro v9 w9 hg9 hb9 hgr9 hob9; refine Hid.out ?_)
      case hgw => exact HZ4.out.alloc _
      case hcm =>
        refine ⟨by simp, fun j hj => ?_⟩
        obtain rfl : j = 0 := by simpa using hj
        exact ⟨by simp [bnth], by simp [bnth]⟩
      case hbd => rw [htl]; omega
      case hB => have := HBR.out.size; simp; omega
      have HG9 := Lib.hid hg9
      have HB9 := Lib.hid (((HBR.out.trans (HB4.out.mono HBR.out.size)).alloc (by have := HBR.out.size; omega) _).trans hb9)
      have HA9 : Hid (At w9 g 0 (fromsL l m)) := by
        refine ⟨Nat.lt_of_lt_of_le hgw (Nat.le_trans (by simp; omega) hgr9.size), fun j hj => ?_⟩
        have hB' := (HA.out.below HB4.out HA.out.1)
        have hB2 := (hB'.below ((Below.refl _ _).alloc (Nat.le_refl _) (.cells #[.int .i64 f, .int .i64 (ra + rb)] 43)) hB'.1)
        exact hgr9.cell (hB2.cell hj) (fun e => hne e.symm)
      have HNE : Hid (v9.ownBlock ≠ some g) := by
        unfold Hid
        rcases hob9 with e | e
        · rw [e]; exact hne
        · rw [e]
          intro h
          injection h with h
          simp at h
          omega
      clear hg9 hb9 hgr9 hob9
      refine Lib.hid ?_
      go_wp2_with fail
      go_roundw
      case rel => exact ⟨k + 1, by omega, by go_num, by rw [HT.out]; exact HG9.out, HNE.out, HA9.out, HB9.out⟩
      case measure => simp [intOf]; omega
    · obtain rfl : k = (fromsL l m).length := by omega
      have hnl : decide (((fromsL l m).length : Int) < ((fromsL l m).length : Int)) = false := decide_eq_false (by omega)
      have HE : Hid ((bothL l m).take (fromsL l m).length = bothL l m) := List.take_of_length_le (by rw [both_len]; omega)
      go_wp2_with fail
      go_ret
      exact ⟨_, rfl, by rw [← HE.out]; exact HZ.out, HBR.out⟩
end Go.Proofs.Ytmiijmgidbbmhaa
