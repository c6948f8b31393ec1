/-
  Promise B2 (reading): the walk of calendar.Read.
-/
import Derived.Test.YtmjnngneigjkkaaDoorCRead
import Derived.Deep.RegionHeld3
namespace Go.Proofs.YtmjnngneigjkkaaDoor
open Go.RowKit Go.Maps

/-- The pattern's byte at a place. -/
def pt (j : Nat) : Int := if j = 4 ∨ j = 7 then 45 else 48
def okA (s : ByteArray) (j : Nat) : Bool := decide (j < s.size) && fitB (bt s j) (pt j)
def num2 (s : ByteArray) (j : Nat) : Int := 10 * (bt s j - 48) + (bt s (j + 1) - 48)
def num4 (s : ByteArray) : Int := 100 * num2 s 0 + num2 s 2
/-- What reading a day answers: the number, the error, and where. -/
def ReadIs (s : ByteArray) (n e a : Int) : Prop := (∃ j : Nat, j < 10 ∧ (∀ i, i < j → okA s i = true) ∧ okA s j = false ∧ n = 0 ∧ e = 1 ∧ a = (j : Int)) ∨ ((∀ i, i < 10 → okA s i = true) ∧ (10 < s.size ∧ n = 0 ∧ e = 1 ∧ a = 10 ∨ s.size = 10 ∧ a = 0 ∧ (dateB (num4 s) (num2 s 5) (num2 s 8) = false ∧ n = 0 ∧ e = 3 ∨ dateB (num4 s) (num2 s 5) (num2 s 8) = true ∧ n = dayN (num4 s) (num2 s 5) (num2 s 8) ∧ e = 0)))

theorem pat_pt : ∀ (k : Nat) (h : k < 10), (((⟨#[48, 48, 48, 48, 45, 48, 48, 45, 48, 48]⟩ : ByteArray)[k]'h).toNat : Int) = pt k
  | 0, _ => rfl | 1, _ => rfl | 2, _ => rfl | 3, _ => rfl | 4, _ => rfl | 5, _ => rfl | 6, _ => rfl | 7, _ => rfl | 8, _ => rfl | 9, _ => rfl
  | k + 10, h => absurd h (by omega)
/-- The fault's two cells, still empty. -/
def FBox (w : World) (g : Nat) : Prop := w.cell? ⟨g, 0, none⟩ = some (.int .i64 0) ∧ w.cell? ⟨g, 1, none⟩ = some (.int .i64 0) ∧ w.frozen? ⟨g, 0, none⟩ = false ∧ w.frozen? ⟨g, 1, none⟩ = false
theorem FBox.made (w : World) (T : TypeId) : FBox (w.alloc (.cells #[.int .i64 0, .int .i64 0] T)) w.heap.size := by
  refine ⟨?_, ?_, ?_, ?_⟩ <;> simp
theorem FBox.set {w : World} {g : Nat} (h : FBox w g) (e a : Int) : (w.setCell ⟨g, 0, none⟩ (.int .i64 e)).cell? ⟨g, 0, none⟩ = some (.int .i64 e) ∧ ((w.setCell ⟨g, 0, none⟩ (.int .i64 e)).setCell ⟨g, 1, none⟩ (.int .i64 a)).cell? ⟨g, 1, none⟩ = some (.int .i64 a) := by
  have n01 : (⟨g, 0, none⟩ : Addr) ≠ ⟨g, 1, none⟩ := by simp
  exact ⟨World.cell?_setCell_same _ _ _ h.1, World.cell?_setCell_same _ _ _ (by rw [World.cell?_setCell_other (h := n01)]; exact h.2.1)⟩
theorem FBox.below {w w' : World} {g : Nat} (h : FBox w g) (hb : Below w.heap.size w w') : FBox w' g := by
  have hg : g < w.heap.size := by
    by_cases hb : g < w.heap.size
    · exact hb
    · have : w.heap[g]? = none := Array.getElem?_eq_none (by omega)
      have h0 := h.1
      simp [World.cell?, this] at h0
  exact ⟨(hb.cell (p := ⟨g, 0, none⟩) hg).trans h.1, (hb.cell (p := ⟨g, 1, none⟩) hg).trans h.2.1, (hb.frozen (p := ⟨g, 0, none⟩) hg).trans h.2.2.1, (hb.frozen (p := ⟨g, 1, none⟩) hg).trans h.2.2.2⟩
theorem FBox.dN {w : World} {g : Nat} (h : FBox w g) (n : Nat) : FBox (w.drewN n) g := h
theorem bt_extract (s : ByteArray) (a e j : Nat) (he : e ≤ s.size) (hj : j < e - a) : bt (s.extract a e) j = bt s (a + j) := by
  have h1 : j < (s.extract a e).size := by rw [ByteArray.size_extract]; omega
  have h2 : a + j < s.size := by omega
  rw [bt_in h1, bt_in h2]
  rw [ByteArray.getElem_extract]
theorem okA_dig {s : ByteArray} {j : Nat} (h : okA s j = true) (h4 : j ≠ 4) (h7 : j ≠ 7) : 48 ≤ bt s j ∧ bt s j ≤ 57 := by
  unfold okA at h
  rw [Bool.and_eq_true] at h
  have := h.2
  rw [show pt j = 48 from if_neg (by omega)] at this
  unfold fitB at this
  rw [if_pos rfl] at this
  exact of_decide_eq_true this
theorem num_part (s : ByteArray) (a b : Nat) (v : Int) (hab : b ≤ a + 4) (hb : b ≤ s.size) (hd : ∀ j, a ≤ j → j < b → 48 ≤ bt s j ∧ bt s j ≤ 57) (hv : b ≤ s.size → numN (s.extract a b) (b - a) = v) (w : World) :
    Calls Tryd.prog 49 #[.string (s.extract a b)] w fun e w' => e = .returned (.int .i64 v) ∧ w' = w := by
  have hsz : (s.extract a b).size = b - a := by rw [ByteArray.size_extract]; omega
  have := number_any (s.extract a b) w (by rw [hsz]; omega) (fun j hj => by rw [hsz] at hj; rw [bt_extract s a b j hb (by omega)]; exact hd (a + j) (by omega) (by omega))
  rw [hsz, hv hb] at this
  exact this
theorem num2_eq (s : ByteArray) (a : Nat) (h : a + 2 ≤ s.size) : numN (s.extract a (a + 2)) (a + 2 - a) = num2 s a := by
  rw [show a + 2 - a = 2 from by omega]
  simp only [numN]
  rw [bt_extract s a (a + 2) 0 h (by omega), bt_extract s a (a + 2) 1 h (by omega)]
  unfold num2
  simp
theorem num4_eq (s : ByteArray) (h : 4 ≤ s.size) : numN (s.extract 0 4) (4 - 0) = num4 s := by
  show numN (s.extract 0 4) 4 = _
  simp only [numN]
  rw [bt_extract s 0 4 0 h (by omega), bt_extract s 0 4 1 h (by omega), bt_extract s 0 4 2 h (by omega), bt_extract s 0 4 3 h (by omega)]
  unfold num4 num2
  simp only [Nat.zero_add, show (2 + 1 : Nat) = 3 from rfl]
  omega
set_option maxRecDepth 100000 in
set_option maxHeartbeats 1000000 in
theorem Read_any (s : ByteArray) (w : World) : Calls Tryd.prog 26 #[.string s] w fun e w' => ∃ n er a : Int, e = .returned (.tuple #[.int .i64 n, .agg #[.int .i64 er, .int .i64 a]]) ∧ ReadIs s n er a ∧ Below w.heap.size w w' := by
  have HB0 := Lib.hid ((Below.refl w.heap.size w).alloc (Nat.le_refl _) (.cells #[.int .i64 0, .int .i64 0] 43))
  go_enter Tryd.func26, Tryd.ntmps26
  go_wp2
  go_loopw [7] (fun iv wr => ∃ k : Nat, iv = .int .i64 (k : Int) ∧ k ≤ 10 ∧ (∀ i, i < k → okA s i = true) ∧ FBox wr w.heap.size ∧ Below w.heap.size w wr) (fun iv _ => (10 - intOf iv).toNat)
  case atStart => exact ⟨0, rfl, by omega, fun i hi => absurd hi (by omega), FBox.made w 43, HB0.out⟩
  case round =>
    obtain ⟨k, rfl, hk, hall, hf0, hbl⟩ := hrel
    have HFB := Lib.hid hf0
    have HBL := Lib.hid hbl
    have HALL := Lib.hid hall
    obtain ⟨f0, f1, z0, z1⟩ := hf0
    clear hbl hall
    by_cases hlt : k < 10
    · have hlt' : (k : Int) < 10 := by omega
      by_cases hin : k < s.size
      · have hinB : decide ((s.size : Int) ≤ (k : Int)) = false := decide_eq_false (by omega)
        have hin' : (k : Int) < (s.size : Int) := by omega
        have HPT := Lib.hid (pat_pt k hlt)
        cases hf : fitB (bt s k) (pt k)
        · have HNO : Hid (okA s k = false) := by unfold Hid okA; rw [hf]; simp
          rw [bt_in hin, ← HPT.out] at hf
          go_wp2
          go_quiet ((go_at_call 48; exact Calls.quiet_of_same (fits_any _ _ _)))
          go_wp2
          obtain ⟨e0, e1⟩ := (HFB.out.dN nq).set 1 (k : Int)
          have HOUT : Hid (ReadIs s 0 1 (k : Int)) := .inl ⟨k, hlt, HALL.out, HNO.out, rfl, rfl, rfl⟩
          refine bodyPost_ret (v := .tuple #[.int .i64 0, .agg #[.int .i64 1, .int .i64 (k : Int)]]) (by simp [results, Tryd.results26, go_sem, e0, e1]) rfl ⟨0, 1, (k : Int), rfl, HOUT.out, ?_⟩
          exact ((below_dN HBL.out _).setCell (by simp) _).setCell (by simp) _
        · have HYES : Hid (okA s k = true) := by unfold Hid okA; rw [hf]; simp [hin]
          rw [bt_in hin, ← HPT.out] at hf
          go_wp2
          go_quiet ((go_at_call 48; exact Calls.quiet_of_same (fits_any _ _ _)))
          go_wp2
          go_roundw
          case rel => exact ⟨k + 1, by go_num, by omega, fun i hi => by rcases (show i < k ∨ i = k by omega) with h | rfl; exact HALL.out i h; exact HYES.out, HFB.out.dN _, below_dN HBL.out _⟩
          case measure => simp [intOf]; omega
      · have HNO : Hid (okA s k = false) := by unfold Hid okA; simp [hin]
        have hinB : decide ((s.size : Int) ≤ (k : Int)) = true := decide_eq_true (by omega)
        have hin' : (s.size : Int) ≤ (k : Int) := by omega
        go_wp2
        go_quiet (fail)
        go_wp2
        obtain ⟨e0, e1⟩ := (HFB.out.dN nq).set 1 (k : Int)
        have HOUT : Hid (ReadIs s 0 1 (k : Int)) := .inl ⟨k, hlt, HALL.out, HNO.out, rfl, rfl, rfl⟩
        refine bodyPost_ret (v := .tuple #[.int .i64 0, .agg #[.int .i64 1, .int .i64 (k : Int)]]) (by simp [results, Tryd.results26, go_sem, e0, e1]) rfl ⟨0, 1, (k : Int), rfl, HOUT.out, ?_⟩
        exact ((below_dN HBL.out _).setCell (by simp) _).setCell (by simp) _
    · obtain rfl : k = 10 := by omega
      have h10 : 10 ≤ s.size := by
        have := HALL.out 9 (by omega)
        unfold okA at this
        simp at this
        omega
      by_cases hlen : s.size = 10
      · have hl1 : (s.size : Int) ≤ 10 := by omega
        have hl2 : (10 : Int) ≤ (s.size : Int) := by omega
        have hl3 : decide ((10 : Int) < (s.size : Int)) = false := decide_eq_false (by omega)
        have HN1 := Lib.hid (fun w => num_part s 0 4 (num4 s) (by omega) (by omega) (fun j h1 h2 => (okA_dig (HALL.out j (by omega)) (by omega) (by omega))) (num4_eq s) w)
        have HN2 := Lib.hid (fun w => num_part s 5 7 (num2 s 5) (by omega) (by omega) (fun j h1 h2 => (okA_dig (HALL.out j (by omega)) (by omega) (by omega))) (num2_eq s 5) w)
        have HN3 := Lib.hid (fun w => num_part s 8 10 (num2 s 8) (by omega) (by omega) (fun j h1 h2 => (okA_dig (HALL.out j (by omega)) (by omega) (by omega))) (num2_eq s 8) w)
        generalize hy : num4 s = y at *
        generalize hm : num2 s 5 = m at *
        generalize hd : num2 s 8 = d at *
        have HY := Lib.hid hy
        have HM := Lib.hid hm
        have HD := Lib.hid hd
        clear hy hm hd
        cases hdt : dateB y m d
        · have HDAY := Lib.hid (fun w => Day_bad y m d w hdt)
          have HOUT : Hid (ReadIs s 0 3 0) := .inr ⟨HALL.out, .inr ⟨hlen, rfl, .inl ⟨by rw [HY.out, HM.out, HD.out]; exact hdt, rfl, rfl⟩⟩⟩
          clear hdt
          go_wp2
          go_region_held3 (fun _ => True) (trivial)
            ((first
              | (go_at_call_of 49 (Value.string (s.extract 0 4)); refine (HN1.out _).mono ?_; rintro e w' ⟨rfl, h'⟩; subst w')
              | (go_at_call_of 49 (Value.string (s.extract 5 7)); refine (HN2.out _).mono ?_; rintro e w' ⟨rfl, h'⟩; subst w')
              | (go_at_call_of 49 (Value.string (s.extract 8 10)); refine (HN3.out _).mono ?_; rintro e w' ⟨rfl, h'⟩; subst w')
              | (go_at_call 20; refine (HDAY.out _).mono ?_; rintro e w5 ⟨rfl, hb5⟩)))
          have HB5 := Lib.hid (HBL.out.drew.trans (hb5.mono HBL.out.size))
          have HF5 := Lib.hid (FBox.below (w := wr.drew) HFB.out hb5)
          clear hb5 f0 f1 z0 z1
          obtain ⟨f0, f1, z0, z1⟩ := HF5.out
          go_wp2
          obtain ⟨e0, e1⟩ := HF5.out.set 3 0
          refine bodyPost_ret (v := .tuple #[.int .i64 0, .agg #[.int .i64 3, .int .i64 0]]) (by simp [results, Tryd.results26, go_sem, e0, e1]) rfl ⟨0, 3, 0, rfl, HOUT.out, ?_⟩
          exact (HB5.out.setCell (by simp) _).setCell (by simp) _
        · have HDAY := Lib.hid (fun w => Day_ok y m d w hdt)
          have HOUT : Hid (ReadIs s (dayN y m d) 0 0) := .inr ⟨HALL.out, .inr ⟨hlen, rfl, .inr ⟨by rw [HY.out, HM.out, HD.out]; exact hdt, by rw [HY.out, HM.out, HD.out], rfl⟩⟩⟩
          clear hdt
          generalize dayN y m d = N at *
          go_wp2
          go_region_held3 (fun _ => True) (trivial)
            ((first
              | (go_at_call_of 49 (Value.string (s.extract 0 4)); refine (HN1.out _).mono ?_; rintro e w' ⟨rfl, h'⟩; subst w')
              | (go_at_call_of 49 (Value.string (s.extract 5 7)); refine (HN2.out _).mono ?_; rintro e w' ⟨rfl, h'⟩; subst w')
              | (go_at_call_of 49 (Value.string (s.extract 8 10)); refine (HN3.out _).mono ?_; rintro e w' ⟨rfl, h'⟩; subst w')
              | (go_at_call 20; refine (HDAY.out _).mono ?_; rintro e w5 ⟨rfl, hb5⟩)))
          have HB5 := Lib.hid (HBL.out.drew.trans (hb5.mono HBL.out.size))
          have HF5 := Lib.hid (FBox.below (w := wr.drew) HFB.out hb5)
          clear hb5 f0 f1 z0 z1
          obtain ⟨f0, f1, z0, z1⟩ := HF5.out
          go_wp2
          obtain ⟨e0, e1⟩ := HF5.out.set 0 0
          refine bodyPost_ret (v := .tuple #[.int .i64 N, .agg #[.int .i64 0, .int .i64 0]]) (by simp [results, Tryd.results26, go_sem, e0, e1]) rfl ⟨N, 0, 0, rfl, HOUT.out, ?_⟩
          exact (HB5.out.setCell (by simp) _).setCell (by simp) _
      · have hl3 : (10 : Int) < (s.size : Int) := by omega
        go_wp2
        obtain ⟨e0, e1⟩ := HFB.out.set 1 10
        have HOUT : Hid (ReadIs s 0 1 10) := .inr ⟨HALL.out, .inl ⟨by omega, rfl, rfl, rfl⟩⟩
        refine bodyPost_ret (v := .tuple #[.int .i64 0, .agg #[.int .i64 1, .int .i64 10]]) (by simp [results, Tryd.results26, go_sem, e0, e1]) rfl ⟨0, 1, 10, rfl, HOUT.out, ?_⟩
        exact (HBL.out.setCell (by simp) _).setCell (by simp) _
end Go.Proofs.YtmjnngneigjkkaaDoor
