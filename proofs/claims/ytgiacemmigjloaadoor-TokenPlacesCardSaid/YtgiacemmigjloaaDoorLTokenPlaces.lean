/-
  The walk of the law TokenPlaces: it answers true at every text.
-/
import Derived.Test.YtgiacemmigjloaaDoorTPlaced
namespace Go.Proofs.YtgiacemmigjloaaDoor
open Go.RowKit

theorem pret_bool {a b : Bool} (h : a = b) : Ending.returned (.bool a) = .returned (.bool b) := by rw [h]
theorem pbelow_dN {B : Nat} {a w : World} (h : Below B a w) (k : Nat) : Below B a (w.drewN k) := h.trans ⟨rfl, rfl, rfl, Nat.le_refl _, fun _ _ => rfl⟩
theorem bytes_some {s : ByteArray} (h : 1 ≤ s.size) : s.toList.isEmpty = false := by
  cases e : s.toList with
  | nil =>
    rw [ByteArray.toList_eq] at e
    have : s.size = 0 := by rw [size_toL, e]; rfl
    omega
  | cons x l => rfl
set_option maxRecDepth 100000 in
set_option maxHeartbeats 2000000 in
theorem walk_tokenPlaces (s : ByteArray) (hs : s.size ≤ 140737488351232) (w : World) (hT : TabE w) :
    Calls Tryd.prog 5 #[.string s] w fun e w' => e = .returned (.bool true) ∧ Below w.heap.size w w' := by
  have HT := Lib.hid hT
  clear hT
  go_enter Tryd.func5, Tryd.ntmps5
  go_wp2_with fail
  refine (begun_any w HT.out).mono ?_
  rintro e w1 ⟨rfl, hb1⟩
  have HB1 := Lib.hid hb1
  clear hb1
  go_wp2_with fail
  refine (Split_any s _ (by omega) (HT.out.below HB1.out)).mono ?_
  rintro e w2 ⟨v, er, at', rfl, hsp, hb⟩
  have HB2 := Lib.hid (HB1.out.trans (hb.mono HB1.out.size))
  clear hb
  rcases hsp with ⟨h4, rfl, rfl, rfl⟩ | ⟨h4, ⟨L, hT, hG, rfl, rfl⟩ | ⟨a, L, o, hT, ha, hf, rfl, rfl⟩⟩
  · go_wp2_with fail
    go_ret
    exact ⟨pret_bool (by simp), HB2.out.alloc HB2.out.size _⟩
  · have hlen := hT.len
    have HS := Lib.hid (toks_stand hT)
    rcases hG.form with ⟨rfl, rfl⟩ | ⟨g, c, rfl, hB, hat⟩
    · clear hT hG
      go_wp2_with fail
      go_loop [5, 6] (fun p i => i = .int .i64 0) (fun _ _ => 0)
      case atStart => exact rfl
      case round =>
        subst hrel
        go_wp2_with fail
        go_ret
        exact ⟨rfl, HB2.out.alloc HB2.out.size _⟩
    · have HAT := Lib.hid (hat.below ((Below.refl _ _).alloc (Nat.le_refl _) (.cells #[.int .i64 0, .int .i64 0] 25)) hat.1)
      have HBF := Lib.hid (HB2.out.alloc HB2.out.size (.cells #[.int .i64 0, .int .i64 0] 25))
      clear hT hG hat
      go_wp2_with fail
      generalize hW : w2.alloc (.cells #[.int .i64 0, .int .i64 0] 25) = W at *
      clear hW
      go_loopw [5, 6] (fun q i wr => ∃ j : Nat, j ≤ L.length ∧ i = .int .i64 j ∧ q = .int .i64 (endOf L j) ∧ Below W.heap.size W wr) (fun _ i _ => L.length - (intOf i).toNat)
      case atStart => exact ⟨0, Nat.zero_le _, rfl, rfl, Below.refl _ _⟩
      case round =>
        obtain ⟨j, hj, rfl, rfl, hbr⟩ := hrel
        have HBR := Lib.hid hbr
        have HBW := Lib.hid (HBF.out.trans (hbr.mono HBF.out.size))
        clear hbr
        by_cases hlt : j < L.length
        · have hlt' : (j : Int) < (L.length : Int) := by omega
          obtain ⟨p, n, hp, hap, hn1, hpn, htx, hsz⟩ := HS.out.2 j hlt
          have HN : Hid (endOf L (j + 1) = p + n) := by
            unfold Hid endOf
            rw [if_neg (by omega), Nat.add_sub_cancel, hp, hsz]
            omega
          obtain ⟨y0, y1, y2, y3, y4⟩ := (HAT.out.below HBR.out HAT.out.1).2 j hlt
          rw [htx] at y1 hsz
          rw [hp] at y4
          clear htx hp
          have hemp := bytes_some (s := s.extract p (p + n)) (by omega)
          have h1B : decide ((p : Int) < (endOf L j : Int)) = false := decide_eq_false (by omega)
          have hszI : ((s.extract p (p + n)).size : Int) = (n : Int) := by omega
          have h3B : decide ((s.size : Int) < (p : Int) + (n : Int)) = false := decide_eq_false (by omega)
          have h1N : decide (p < endOf L j) = false := decide_eq_false (by omega)
          have h3N : decide (s.size < p + n) = false := decide_eq_false (by omega)
          have htn : ((p : Int) + (n : Int)).toNat = p + n := by omega
          have hle1 : (p : Int) ≤ (p : Int) + (n : Int) := by omega
          have hle2 : (p : Int) + (n : Int) ≤ (s.size : Int) := by omega
          generalize hk : (tnth L j).k = tk at *
          generalize hk : (tnth L j).num = tn at *
          generalize hk : (tnth L j).pt = tp at *
          go_wp2_with fail
          go_quiet (fail)
          go_wp2_with fail
          go_roundw
          case rel => exact ⟨j + 1, by omega, by go_num, by rw [HN.out]; go_num, pbelow_dN (HBR.out.alloc HBR.out.size _) _⟩
          case measure => simp [intOf]; omega
        · have hnl : decide ((j : Int) < (L.length : Int)) = false := decide_eq_false (by omega)
          go_wp2_with fail
          go_ret
          exact ⟨rfl, HBW.out⟩
  · have he : er ≠ 0 := by rcases (bad_err hf).1 with h | h <;> omega
    have heB : decide (er = 0) = false := decide_eq_false he
    have heE : (er != 0) = true := by simp [he]
    have hol := (bad_err hf).2 (by rw [ByteArray.size_extract]; omega)
    rw [ByteArray.size_extract] at hol
    have h1 : (0 : Int) ≤ ((a + o : Nat) : Int) := by omega
    have h2 : ((a + o : Nat) : Int) ≤ (s.size : Int) := by omega
    generalize ((a + o : Nat) : Int) = q at *
    clear hT hf
    go_wp2_with fail
    go_ret
    exact ⟨pret_bool (by simp), HB2.out.alloc HB2.out.size _⟩
end Go.Proofs.YtgiacemmigjloaaDoor
