/-
  Promise B2 (reading): the walk of the reference's ReadDay.
-/
import Derived.Test.YtmjnngneigjkkaaDoorCReadW
namespace Go.Proofs.YtmjnngneigjkkaaDoor
open Go.RowKit Go.Maps

/-- The number of k digits from a place on. -/
def dgN (s : ByteArray) (a : Nat) : Nat → Int
  | 0 => 0
  | k + 1 => 10 * dgN s a k + (bt s (a + k) - 48)
theorem dgN_bd (s : ByteArray) (a : Nat) : ∀ k, (∀ j, j < k → 48 ≤ bt s (a + j) ∧ bt s (a + j) ≤ 57) → 0 ≤ dgN s a k ∧ dgN s a k < 10 ^ k
  | 0, _ => ⟨Int.le_refl _, show (0 : Int) < 10 ^ 0 by decide⟩
  | k + 1, h => by
    have := dgN_bd s a k (fun j hj => h j (by omega))
    have := h k (by omega)
    have e : (10 : Int) ^ (k + 1) = 10 ^ k * 10 := Int.pow_succ ..
    rw [dgN, e]
    omega
theorem dg2 (s : ByteArray) (a : Nat) : dgN s a 2 = num2 s a := by
  simp only [dgN]
  unfold num2
  simp only [Nat.add_zero]
  omega
theorem dg4 (s : ByteArray) : dgN s 0 4 = num4 s := by
  simp only [dgN]
  unfold num4 num2
  simp only [Nat.zero_add, show (2 + 1 : Nat) = 3 from rfl]
  omega
/-- Three ints of the call's own. -/
def N3 (w : World) (g : Nat) (a b c : Int) : Prop := (w.cell? ⟨g, 0, none⟩ = some (.int .i64 a) ∧ w.frozen? ⟨g, 0, none⟩ = false) ∧ (w.cell? ⟨g, 1, none⟩ = some (.int .i64 b) ∧ w.frozen? ⟨g, 1, none⟩ = false) ∧ (w.cell? ⟨g, 2, none⟩ = some (.int .i64 c) ∧ w.frozen? ⟨g, 2, none⟩ = false)
theorem N3.made (w : World) (a b c : Int) (T : TypeId) : N3 (w.alloc (.cells #[.int .i64 a, .int .i64 b, .int .i64 c] T)) w.heap.size a b c := by
  refine ⟨⟨?_, ?_⟩, ⟨?_, ?_⟩, ⟨?_, ?_⟩⟩ <;> simp
theorem N3.s0 {w : World} {g : Nat} {a b c : Int} (h : N3 w g a b c) (v : Int) : N3 (w.setCell ⟨g, 0, none⟩ (.int .i64 v)) g v b c := by
  obtain ⟨⟨h0, z0⟩, ⟨h1, z1⟩, ⟨h2, z2⟩⟩ := h
  refine ⟨⟨World.cell?_setCell_same _ _ _ h0, by rw [World.frozen?_setCell]; exact z0⟩, ⟨?_, by rw [World.frozen?_setCell]; exact z1⟩, ⟨?_, by rw [World.frozen?_setCell]; exact z2⟩⟩
  · rw [World.cell?_setCell_other (h := (by simp))]; exact h1
  · rw [World.cell?_setCell_other (h := (by simp))]; exact h2
theorem N3.s1 {w : World} {g : Nat} {a b c : Int} (h : N3 w g a b c) (v : Int) : N3 (w.setCell ⟨g, 1, none⟩ (.int .i64 v)) g a v c := by
  obtain ⟨⟨h0, z0⟩, ⟨h1, z1⟩, ⟨h2, z2⟩⟩ := h
  refine ⟨⟨?_, by rw [World.frozen?_setCell]; exact z0⟩, ⟨World.cell?_setCell_same _ _ _ h1, by rw [World.frozen?_setCell]; exact z1⟩, ⟨?_, by rw [World.frozen?_setCell]; exact z2⟩⟩
  · rw [World.cell?_setCell_other (h := (by simp))]; exact h0
  · rw [World.cell?_setCell_other (h := (by simp))]; exact h2
theorem N3.s2 {w : World} {g : Nat} {a b c : Int} (h : N3 w g a b c) (v : Int) : N3 (w.setCell ⟨g, 2, none⟩ (.int .i64 v)) g a b v := by
  obtain ⟨⟨h0, z0⟩, ⟨h1, z1⟩, ⟨h2, z2⟩⟩ := h
  refine ⟨⟨?_, by rw [World.frozen?_setCell]; exact z0⟩, ⟨?_, by rw [World.frozen?_setCell]; exact z1⟩, ⟨World.cell?_setCell_same _ _ _ h2, by rw [World.frozen?_setCell]; exact z2⟩⟩
  · rw [World.cell?_setCell_other (h := (by simp))]; exact h0
  · rw [World.cell?_setCell_other (h := (by simp))]; exact h1
theorem FBox.far {w : World} {g : Nat} (h : FBox w g) {b o : Nat} (hb : b ≠ g) (v : Value) : FBox (w.setCell ⟨b, o, none⟩ v) g := by
  obtain ⟨f0, f1, z0, z1⟩ := h
  refine ⟨?_, ?_, by rw [World.frozen?_setCell]; exact z0, by rw [World.frozen?_setCell]; exact z1⟩
  · rw [World.cell?_setCell_other (h := (by intro e; cases e; exact hb rfl))]; exact f0
  · rw [World.cell?_setCell_other (h := (by intro e; cases e; exact hb rfl))]; exact f1
/-- What has been read of the first i bytes. -/
def seg (i : Nat) : Int := if i ≤ 4 then 0 else if i ≤ 7 then 1 else 2
def r0 (s : ByteArray) (i : Nat) : Int := dgN s 0 (min i 4)
def r1 (s : ByteArray) (i : Nat) : Int := dgN s 5 (min (i - 5) 2)
def r2 (s : ByteArray) (i : Nat) : Int := dgN s 8 (i - 8)
theorem okA_digB {s : ByteArray} {j : Nat} (h4 : j ≠ 4) (h7 : j ≠ 7) : okA s j = digB s j := by
  unfold okA digB
  rw [show pt j = 48 from if_neg (by omega)]
  unfold fitB
  rw [if_pos rfl]
  by_cases h : j < s.size
  · simp [h]
  · rw [bt_out h]
    simp [h]

theorem r0_up (s : ByteArray) (i : Nat) (h : i < 4) (hd : ∀ j, j < i → j ≠ 4 → j ≠ 7 → 48 ≤ bt s j ∧ bt s j ≤ 57) : r0 s (i + 1) = 10 * r0 s i + bt s i - 48 ∧ r1 s (i + 1) = r1 s i ∧ r2 s (i + 1) = r2 s i ∧ 0 ≤ r0 s i ∧ r0 s i ≤ 999 := by
  have hb := dgN_bd s 0 i (fun j hj => by rw [Nat.zero_add]; exact hd j hj (by omega) (by omega))
  have hp : (10 : Int) ^ i ≤ 1000 := by
    have : i = 0 ∨ i = 1 ∨ i = 2 ∨ i = 3 := by omega
    rcases this with rfl | rfl | rfl | rfl <;> decide
  unfold r0 r1 r2
  rw [show min (i + 1) 4 = i + 1 from by omega, show min i 4 = i from by omega, show min (i + 1 - 5) 2 = min (i - 5) 2 from by omega, show i + 1 - 8 = i - 8 from by omega]
  refine ⟨?_, rfl, rfl, hb.1, by omega⟩
  rw [dgN, Nat.zero_add]
  omega
theorem r1_up (s : ByteArray) (i : Nat) (h : 5 ≤ i ∧ i < 7) (hd : ∀ j, j < i → j ≠ 4 → j ≠ 7 → 48 ≤ bt s j ∧ bt s j ≤ 57) : r0 s (i + 1) = r0 s i ∧ r1 s (i + 1) = 10 * r1 s i + bt s i - 48 ∧ r2 s (i + 1) = r2 s i ∧ 0 ≤ r1 s i ∧ r1 s i ≤ 999 := by
  have hb := dgN_bd s 5 (i - 5) (fun j hj => hd (5 + j) (by omega) (by omega) (by omega))
  have hp : (10 : Int) ^ (i - 5) ≤ 1000 := by
    have : i - 5 = 0 ∨ i - 5 = 1 := by omega
    rcases this with e | e <;> rw [e] <;> decide
  unfold r0 r1 r2
  rw [show min (i + 1) 4 = min i 4 from by omega, show min (i + 1 - 5) 2 = (i - 5) + 1 from by omega, show min (i - 5) 2 = i - 5 from by omega, show i + 1 - 8 = i - 8 from by omega]
  refine ⟨rfl, ?_, rfl, hb.1, by omega⟩
  rw [dgN, show 5 + (i - 5) = i from by omega]
  omega
theorem r2_up (s : ByteArray) (i : Nat) (h : 8 ≤ i ∧ i < 10) (hd : ∀ j, j < i → j ≠ 4 → j ≠ 7 → 48 ≤ bt s j ∧ bt s j ≤ 57) : r0 s (i + 1) = r0 s i ∧ r1 s (i + 1) = r1 s i ∧ r2 s (i + 1) = 10 * r2 s i + bt s i - 48 ∧ 0 ≤ r2 s i ∧ r2 s i ≤ 999 := by
  have hb := dgN_bd s 8 (i - 8) (fun j hj => hd (8 + j) (by omega) (by omega) (by omega))
  have hp : (10 : Int) ^ (i - 8) ≤ 1000 := by
    have : i - 8 = 0 ∨ i - 8 = 1 := by omega
    rcases this with e | e <;> rw [e] <;> decide
  unfold r0 r1 r2
  rw [show min (i + 1) 4 = min i 4 from by omega, show min (i + 1 - 5) 2 = min (i - 5) 2 from by omega, show i + 1 - 8 = (i - 8) + 1 from by omega]
  refine ⟨rfl, rfl, ?_, hb.1, by omega⟩
  rw [dgN, show 8 + (i - 8) = i from by omega]
  omega
theorem wrap_small {x : Int} (h0 : -1000000 ≤ x) (h1 : x ≤ 1000000) : IntKind.i64.wrap x = x := by
  simp [IntKind.wrap, IntKind.bits, IntKind.signed]
  omega
set_option maxRecDepth 100000 in
set_option maxHeartbeats 1000000 in
theorem readDay_ref (s : ByteArray) (w : World) : Calls Tryd.prog 27 #[.string s] w fun e w' => ∃ n er a : Int, e = .returned (.tuple #[.int .i64 n, .agg #[.int .i64 er, .int .i64 a]]) ∧ ReadIs s n er a ∧ Below w.heap.size w w' := by
  have HB0 := Lib.hid (((Below.refl w.heap.size w).alloc (Nat.le_refl _) (.cells #[.int .i64 0, .int .i64 0] 43)).alloc (by simp) (.cells #[.int .i64 0, .int .i64 0, .int .i64 0] 3))
  have HF0 := Lib.hid ((FBox.made w 43).below ((Below.refl _ _).alloc (Nat.le_refl _) (.cells #[.int .i64 0, .int .i64 0, .int .i64 0] 3)))
  have HN0 : Hid (N3 ((w.alloc (.cells #[.int .i64 0, .int .i64 0] 43)).alloc (.cells #[.int .i64 0, .int .i64 0, .int .i64 0] 3)) (w.heap.size + 1) 0 0 0) := by
    have := N3.made (w.alloc (.cells #[.int .i64 0, .int .i64 0] 43)) 0 0 0 3
    unfold Hid
    simpa using this
  go_enter Tryd.func27, Tryd.ntmps27
  go_wp2
  go_loopw [6, 7] (fun kv iv wr => ∃ i : Nat, iv = .int .i64 (i : Int) ∧ i ≤ 10 ∧ kv = .int .i64 (seg i) ∧ (∀ j, j < i → okA s j = true) ∧ FBox wr w.heap.size ∧ N3 wr (w.heap.size + 1) (r0 s i) (r1 s i) (r2 s i) ∧ Below w.heap.size w wr) (fun _ iv _ => (10 - intOf iv).toNat)
  case atStart => exact ⟨0, rfl, by omega, rfl, fun j hj => absurd hj (by omega), HF0.out, HN0.out, HB0.out⟩
  case round =>
    clear HF0 HN0 HB0
    obtain ⟨i, rfl, hi, rfl, hall, hfb, hn3, hbl⟩ := hrel
    have HFB := Lib.hid hfb
    have HN := Lib.hid hn3
    have HBL := Lib.hid hbl
    have HALL := Lib.hid hall
    clear hbl hall hn3
    obtain ⟨f0, f1, z0, z1⟩ := hfb
    by_cases hlt : i < 10
    · have hlt' : (i : Int) < 10 := by omega
      by_cases hd : i = 4 ∨ i = 7
      · rcases hd with rfl | rfl
        · have hpt : (((⟨#[48, 48, 48, 48, 45, 48, 48, 45, 48, 48]⟩ : ByteArray)[4]'(by decide)).toNat : Int) = 45 := rfl
          have hseg : seg 4 = 0 := rfl
          by_cases hin : 4 < s.size
          · have hin' : (4 : Int) < (s.size : Int) := by omega
            have hinB : decide ((s.size : Int) ≤ 4) = false := decide_eq_false (by omega)
            have hbt := Lib.hid (bt_in hin)
            by_cases hb : (s[4].toNat : Int) = 45
            · have hbB : ((s[4].toNat : Int) != 45) = false := by simp [hb]
              have HYES : Hid (okA s 4 = true) := by
                unfold Hid okA
                rw [hbt.out, hb]
                simp [hin]
                rfl
              have HALL2 : Hid (∀ j, j < 4 + 1 → okA s j = true) := fun j hj => by rcases (show j < 4 ∨ j = 4 by omega) with h | rfl; exact HALL.out j h; exact HYES.out
              go_wp2_with fail
              go_roundw
              case rel => exact ⟨4 + 1, by go_num, by omega, by first | rfl | trace_state, HALL2.out, HFB.out, HN.out, HBL.out⟩
              case measure => simp [intOf] <;> omega
            · have hbB : ((s[4].toNat : Int) != 45) = true := by simpa using hb
              have HOUT : Hid (ReadIs s 0 1 4) := .inl ⟨4, by omega, HALL.out, by
                unfold okA
                rw [hbt.out]
                have : fitB (s[4].toNat : Int) (pt 4) = false := by
                  show fitB _ 45 = false
                  unfold fitB
                  rw [if_neg (by decide)]
                  exact decide_eq_false hb
                rw [this]
                simp, rfl, rfl, rfl⟩
              go_wp2_with fail
              obtain ⟨e0, e1⟩ := HFB.out.set 1 4
              refine bodyPost_ret (v := .tuple #[.int .i64 0, .agg #[.int .i64 1, .int .i64 4]]) (by simp [results, Tryd.results27, go_sem, e0, e1]) rfl ⟨0, 1, 4, rfl, HOUT.out, ?_⟩
              exact (HBL.out.setCell (by simp) _).setCell (by simp) _
          · have hin' : (s.size : Int) ≤ 4 := by omega
            have hinB : decide ((s.size : Int) ≤ 4) = true := decide_eq_true (by omega)
            have HOUT : Hid (ReadIs s 0 1 4) := .inl ⟨4, by omega, HALL.out, by unfold okA; simp [hin], rfl, rfl, rfl⟩
            go_wp2_with fail
            obtain ⟨e0, e1⟩ := HFB.out.set 1 4
            refine bodyPost_ret (v := .tuple #[.int .i64 0, .agg #[.int .i64 1, .int .i64 4]]) (by simp [results, Tryd.results27, go_sem, e0, e1]) rfl ⟨0, 1, 4, rfl, HOUT.out, ?_⟩
            exact (HBL.out.setCell (by simp) _).setCell (by simp) _
        · have hpt : (((⟨#[48, 48, 48, 48, 45, 48, 48, 45, 48, 48]⟩ : ByteArray)[7]'(by decide)).toNat : Int) = 45 := rfl
          have hseg : seg 7 = 1 := rfl
          by_cases hin : 7 < s.size
          · have hin' : (7 : Int) < (s.size : Int) := by omega
            have hinB : decide ((s.size : Int) ≤ 7) = false := decide_eq_false (by omega)
            have hbt := Lib.hid (bt_in hin)
            by_cases hb : (s[7].toNat : Int) = 45
            · have hbB : ((s[7].toNat : Int) != 45) = false := by simp [hb]
              have HYES : Hid (okA s 7 = true) := by
                unfold Hid okA
                rw [hbt.out, hb]
                simp [hin]
                rfl
              have HALL2 : Hid (∀ j, j < 7 + 1 → okA s j = true) := fun j hj => by rcases (show j < 7 ∨ j = 7 by omega) with h | rfl; exact HALL.out j h; exact HYES.out
              go_wp2_with fail
              go_roundw
              case rel => exact ⟨7 + 1, by go_num, by omega, by first | rfl | trace_state, HALL2.out, HFB.out, HN.out, HBL.out⟩
              case measure => simp [intOf] <;> omega
            · have hbB : ((s[7].toNat : Int) != 45) = true := by simpa using hb
              have HOUT : Hid (ReadIs s 0 1 7) := .inl ⟨7, by omega, HALL.out, by
                unfold okA
                rw [hbt.out]
                have : fitB (s[7].toNat : Int) (pt 7) = false := by
                  show fitB _ 45 = false
                  unfold fitB
                  rw [if_neg (by decide)]
                  exact decide_eq_false hb
                rw [this]
                simp, rfl, rfl, rfl⟩
              go_wp2_with fail
              obtain ⟨e0, e1⟩ := HFB.out.set 1 7
              refine bodyPost_ret (v := .tuple #[.int .i64 0, .agg #[.int .i64 1, .int .i64 7]]) (by simp [results, Tryd.results27, go_sem, e0, e1]) rfl ⟨0, 1, 7, rfl, HOUT.out, ?_⟩
              exact (HBL.out.setCell (by simp) _).setCell (by simp) _
          · have hin' : (s.size : Int) ≤ 7 := by omega
            have hinB : decide ((s.size : Int) ≤ 7) = true := decide_eq_true (by omega)
            have HOUT : Hid (ReadIs s 0 1 7) := .inl ⟨7, by omega, HALL.out, by unfold okA; simp [hin], rfl, rfl, rfl⟩
            go_wp2_with fail
            obtain ⟨e0, e1⟩ := HFB.out.set 1 7
            refine bodyPost_ret (v := .tuple #[.int .i64 0, .agg #[.int .i64 1, .int .i64 7]]) (by simp [results, Tryd.results27, go_sem, e0, e1]) rfl ⟨0, 1, 7, rfl, HOUT.out, ?_⟩
            exact (HBL.out.setCell (by simp) _).setCell (by simp) _
      · have h4 : i ≠ 4 := fun e => hd (.inl e)
        have h7 : i ≠ 7 := fun e => hd (.inr e)
        have hpt : (((⟨#[48, 48, 48, 48, 45, 48, 48, 45, 48, 48]⟩ : ByteArray)[i]'hlt).toNat : Int) = 48 := by rw [pat_pt i hlt]; exact if_neg hd
        have HOK := Lib.hid (okA_digB (s := s) h4 h7)
        clear hd
        cases hdg : digB s i
        · have HOUT : Hid (ReadIs s 0 1 (i : Int)) := .inl ⟨i, hlt, HALL.out, by rw [HOK.out]; exact hdg, rfl, rfl, rfl⟩
          have HDG : Hid (∀ w, Calls Tryd.prog 50 #[.string s, .int .i64 (i : Int)] w fun e w' => e = .returned (.bool false) ∧ w' = w) := fun w => by
            have := isDigit_ref s (i : Int) w (by omega)
            simp only [Int.toNat_natCast, hdg] at this
            exact this
          clear hdg
          go_wp2_with fail
          refine (HDG.out _).mono ?_
          rintro e w' ⟨rfl, h'⟩
          subst w'
          go_wp2_with fail
          obtain ⟨e0, e1⟩ := HFB.out.set 1 (i : Int)
          refine bodyPost_ret (v := .tuple #[.int .i64 0, .agg #[.int .i64 1, .int .i64 (i : Int)]]) (by simp [results, Tryd.results27, go_sem, e0, e1]) rfl ⟨0, 1, (i : Int), rfl, HOUT.out, ?_⟩
          exact (HBL.out.setCell (by simp) _).setCell (by simp) _
        · have HYES : Hid (okA s i = true) := HOK.out.trans hdg
          have HDG : Hid (∀ w, Calls Tryd.prog 50 #[.string s, .int .i64 (i : Int)] w fun e w' => e = .returned (.bool true) ∧ w' = w) := fun w => by
            have := isDigit_ref s (i : Int) w (by omega)
            simp only [Int.toNat_natCast, hdg] at this
            exact this
          have hin : i < s.size := by
            by_cases h : i < s.size
            · exact h
            · unfold digB at hdg; rw [bt_out h] at hdg; simp at hdg
          have hbt := Lib.hid (bt_in hin)
          have hdd : 48 ≤ (s[i].toNat : Int) ∧ (s[i].toNat : Int) ≤ 57 := by rw [← hbt.out]; exact of_decide_eq_true hdg
          obtain ⟨hd1, hd2⟩ := hdd
          have hin' : (i : Int) < (s.size : Int) := by omega
          obtain ⟨⟨n0, y0⟩, ⟨n1, y1⟩, ⟨n2, y2⟩⟩ := HN.out
          have HALL2 : Hid (∀ j, j < i + 1 → okA s j = true) := fun j hj => by rcases (show j < i ∨ j = i by omega) with h | rfl; exact HALL.out j h; exact HYES.out
          clear hdg
          rcases (show i < 4 ∨ (5 ≤ i ∧ i < 7) ∨ (8 ≤ i ∧ i < 10) by omega) with h | h | h
          · have hsg : seg i = 0 := by unfold seg; (first | rw [if_pos (by omega)] | rw [if_neg (by omega), if_pos (by omega)] | rw [if_neg (by omega), if_neg (by omega)])
            have HSG : Hid (seg (i + 1) = 0) := by unfold Hid seg; (first | rw [if_pos (by omega)] | rw [if_neg (by omega), if_pos (by omega)] | rw [if_neg (by omega), if_neg (by omega)])
            rw [hsg]
            clear hsg
            obtain ⟨u0, u1, u2, hv0, hv1⟩ := r0_up s i h (fun j hj h4 h7 => okA_dig (HALL.out j hj) h4 h7)
            have HU0 := Lib.hid u0
            have HU1 := Lib.hid u1
            have HU2 := Lib.hid u2
            clear u0 u1 u2
            generalize hvv : r0 s i = v at *
            have HVV := Lib.hid hvv
            clear hvv
            have hgne : w.heap.size + 1 ≠ w.heap.size := by omega
            go_wp2_with fail
            refine (HDG.out _).mono ?_
            rintro e w' ⟨rfl, h'⟩
            subst w'
            go_wp2_with fail
            have hw1 : IntKind.i64.wrap (10 * v) = 10 * v := wrap_small (by omega) (by omega)
            have hw2 : IntKind.i64.wrap (s[i].toNat : Int) = (s[i].toNat : Int) := wrap_small (by omega) (by omega)
            have hw3 : IntKind.i64.wrap (10 * v + (s[i].toNat : Int)) = 10 * v + (s[i].toNat : Int) := wrap_small (by omega) (by omega)
            have hw4 : IntKind.i64.wrap (10 * v + (s[i].toNat : Int) - 48) = 10 * v + (s[i].toNat : Int) - 48 := wrap_small (by omega) (by omega)
            go_region_with (fail)
            all_goals
              go_wp2_with fail
              go_roundw
              case rel => exact ⟨i + 1, by go_num, by omega, by rw [HSG.out], HALL2.out, FBox.far (w := wr) HFB.out hgne _, by rw [HU0.out, HU1.out, HU2.out, hbt.out]; exact HN.out.s0 _, (HBL.out.setCell (by simp) _).drew⟩
              case measure => simp [intOf] <;> omega
          · have hsg : seg i = 1 := by unfold seg; (first | rw [if_pos (by omega)] | rw [if_neg (by omega), if_pos (by omega)] | rw [if_neg (by omega), if_neg (by omega)])
            have HSG : Hid (seg (i + 1) = 1) := by unfold Hid seg; (first | rw [if_pos (by omega)] | rw [if_neg (by omega), if_pos (by omega)] | rw [if_neg (by omega), if_neg (by omega)])
            rw [hsg]
            clear hsg
            obtain ⟨u0, u1, u2, hv0, hv1⟩ := r1_up s i h (fun j hj h4 h7 => okA_dig (HALL.out j hj) h4 h7)
            have HU0 := Lib.hid u0
            have HU1 := Lib.hid u1
            have HU2 := Lib.hid u2
            clear u0 u1 u2
            generalize hvv : r1 s i = v at *
            have HVV := Lib.hid hvv
            clear hvv
            have hgne : w.heap.size + 1 ≠ w.heap.size := by omega
            go_wp2_with fail
            refine (HDG.out _).mono ?_
            rintro e w' ⟨rfl, h'⟩
            subst w'
            go_wp2_with fail
            have hw1 : IntKind.i64.wrap (10 * v) = 10 * v := wrap_small (by omega) (by omega)
            have hw2 : IntKind.i64.wrap (s[i].toNat : Int) = (s[i].toNat : Int) := wrap_small (by omega) (by omega)
            have hw3 : IntKind.i64.wrap (10 * v + (s[i].toNat : Int)) = 10 * v + (s[i].toNat : Int) := wrap_small (by omega) (by omega)
            have hw4 : IntKind.i64.wrap (10 * v + (s[i].toNat : Int) - 48) = 10 * v + (s[i].toNat : Int) - 48 := wrap_small (by omega) (by omega)
            go_region_with (fail)
            all_goals
              go_wp2_with fail
              go_roundw
              case rel => exact ⟨i + 1, by go_num, by omega, by rw [HSG.out], HALL2.out, FBox.far (w := wr) HFB.out hgne _, by rw [HU0.out, HU1.out, HU2.out, hbt.out]; exact HN.out.s1 _, (HBL.out.setCell (by simp) _).drew⟩
              case measure => simp [intOf] <;> omega
          · have hsg : seg i = 2 := by unfold seg; (first | rw [if_pos (by omega)] | rw [if_neg (by omega), if_pos (by omega)] | rw [if_neg (by omega), if_neg (by omega)])
            have HSG : Hid (seg (i + 1) = 2) := by unfold Hid seg; (first | rw [if_pos (by omega)] | rw [if_neg (by omega), if_pos (by omega)] | rw [if_neg (by omega), if_neg (by omega)])
            rw [hsg]
            clear hsg
            obtain ⟨u0, u1, u2, hv0, hv1⟩ := r2_up s i h (fun j hj h4 h7 => okA_dig (HALL.out j hj) h4 h7)
            have HU0 := Lib.hid u0
            have HU1 := Lib.hid u1
            have HU2 := Lib.hid u2
            clear u0 u1 u2
            generalize hvv : r2 s i = v at *
            have HVV := Lib.hid hvv
            clear hvv
            have hgne : w.heap.size + 1 ≠ w.heap.size := by omega
            go_wp2_with fail
            refine (HDG.out _).mono ?_
            rintro e w' ⟨rfl, h'⟩
            subst w'
            go_wp2_with fail
            have hw1 : IntKind.i64.wrap (10 * v) = 10 * v := wrap_small (by omega) (by omega)
            have hw2 : IntKind.i64.wrap (s[i].toNat : Int) = (s[i].toNat : Int) := wrap_small (by omega) (by omega)
            have hw3 : IntKind.i64.wrap (10 * v + (s[i].toNat : Int)) = 10 * v + (s[i].toNat : Int) := wrap_small (by omega) (by omega)
            have hw4 : IntKind.i64.wrap (10 * v + (s[i].toNat : Int) - 48) = 10 * v + (s[i].toNat : Int) - 48 := wrap_small (by omega) (by omega)
            go_region_with (fail)
            all_goals
              go_wp2_with fail
              go_roundw
              case rel => exact ⟨i + 1, by go_num, by omega, by rw [HSG.out], HALL2.out, FBox.far (w := wr) HFB.out hgne _, by rw [HU0.out, HU1.out, HU2.out, hbt.out]; exact HN.out.s2 _, (HBL.out.setCell (by simp) _).drew⟩
              case measure => simp [intOf] <;> omega
    · obtain rfl : i = 10 := by omega
      have h10 : 10 ≤ s.size := by
        have := HALL.out 9 (by omega)
        unfold okA at this
        simp at this
        omega
      by_cases hlen : s.size = 10
      · have hl1 : (s.size : Int) ≤ 10 := by omega
        have hl2 : (10 : Int) ≤ (s.size : Int) := by omega
        have hl3 : decide ((10 : Int) < (s.size : Int)) = false := decide_eq_false (by omega)
        have HN10 : Hid (N3 wr (w.heap.size + 1) (num4 s) (num2 s 5) (num2 s 8)) := by
          have := HN.out
          rw [show r0 s 10 = num4 s from dg4 s, show r1 s 10 = num2 s 5 from dg2 s 5, show r2 s 10 = num2 s 8 from dg2 s 8] at this
          exact this
        generalize hy : num4 s = y at *
        generalize hm : num2 s 5 = m at *
        generalize hd : num2 s 8 = d at *
        have HY := Lib.hid hy
        have HM := Lib.hid hm
        have HD := Lib.hid hd
        clear hy hm hd HN
        obtain ⟨⟨n0, y0⟩, ⟨n1, y1⟩, ⟨n2, y2⟩⟩ := HN10.out
        have hsz : w.heap.size + 1 < wr.heap.size := by
          by_cases hb : w.heap.size + 1 < wr.heap.size
          · exact hb
          · have : wr.heap[w.heap.size + 1]? = none := Array.getElem?_eq_none (by omega)
            simp [World.cell?, this] at n0
        have hne : w.heap.size + 1 ≠ wr.heap.size := by omega
        go_wp2_with fail
        go_region_held3 (fun w' => w'.cell? ⟨w.heap.size + 1, 0, none⟩ = some (.int .i64 y) ∧ w'.cell? ⟨w.heap.size + 1, 1, none⟩ = some (.int .i64 m) ∧ w'.cell? ⟨w.heap.size + 1, 2, none⟩ = some (.int .i64 d)) (first | go_keep | (trace_state; fail)) (fail)
        have HF5 : Hid (FBox (wr.alloc (.cells #[.int .i64 y, .int .i64 m, .int .i64 d] 23)).drew w.heap.size) := HFB.out.below ((Below.refl wr.heap.size wr).alloc (Nat.le_refl _) _).drew
        have HB5 : Hid (Below w.heap.size w (wr.alloc (.cells #[.int .i64 y, .int .i64 m, .int .i64 d] 23)).drew) := (HBL.out.alloc HBL.out.size _).drew
        have HX5 : Hid (N3 (wr.alloc (.cells #[.int .i64 y, .int .i64 m, .int .i64 d] 23)).drew wr.heap.size y m d) := N3.made wr y m d _
        have hx5 : wr.heap.size < (wr.alloc (.cells #[.int .i64 y, .int .i64 m, .int .i64 d] 23)).drew.heap.size := by simp
        clear HFB HBL n0 n1 n2 y0 y1 y2 f0 f1 z0 z1 HN10 hsz hne
        generalize (wr.alloc (.cells #[.int .i64 y, .int .i64 m, .int .i64 d] 23)).drew = w5 at *
        generalize wr.heap.size = G at *
        obtain ⟨⟨n0, y0⟩, ⟨n1, y1⟩, ⟨n2, y2⟩⟩ := HX5.out
        cases hdt : dateB y m d
        · have HDAY := Lib.hid (fun w => isDate_ref y m d w)
          rw [hdt] at HDAY
          have HOUT : Hid (ReadIs s 0 3 0) := .inr ⟨HALL.out, .inr ⟨hlen, rfl, .inl ⟨by rw [HY.out, HM.out, HD.out]; exact hdt, rfl, rfl⟩⟩⟩
          clear hdt
          go_wp2_with fail
          refine (HDAY.out _).mono ?_
          rintro e w6 ⟨rfl, hb6⟩
          have HB6 := Lib.hid (HB5.out.trans (hb6.mono HB5.out.size))
          have HF6 := Lib.hid (HF5.out.below hb6)
          clear hb6
          obtain ⟨f0, f1, z0, z1⟩ := HF6.out
          go_wp2_with fail
          obtain ⟨e0, e1⟩ := HF6.out.set 3 0
          refine bodyPost_ret (v := .tuple #[.int .i64 0, .agg #[.int .i64 3, .int .i64 0]]) (by simp [results, Tryd.results27, go_sem, e0, e1]) rfl ⟨0, 3, 0, rfl, HOUT.out, ?_⟩
          exact (HB6.out.setCell (by simp) _).setCell (by simp) _
        · have HDAY := Lib.hid (fun w => isDate_ref y m d w)
          rw [hdt] at HDAY
          have HDO := Lib.hid (fun w => dayOf_ref y m d w hdt)
          have HOUT : Hid (ReadIs s (dayN y m d) 0 0) := .inr ⟨HALL.out, .inr ⟨hlen, rfl, .inr ⟨by rw [HY.out, HM.out, HD.out]; exact hdt, by rw [HY.out, HM.out, HD.out], rfl⟩⟩⟩
          clear hdt
          generalize dayN y m d = N at *
          go_wp2_with fail
          refine (HDAY.out _).mono ?_
          rintro e w6 ⟨rfl, hb6⟩
          have HB6 := Lib.hid (HB5.out.trans (hb6.mono HB5.out.size))
          have HF6 := Lib.hid (HF5.out.below hb6)
          have x0 := (hb6.cell (p := ⟨G, 0, none⟩) hx5).trans n0
          have x1 := (hb6.cell (p := ⟨G, 1, none⟩) hx5).trans n1
          have x2 := (hb6.cell (p := ⟨G, 2, none⟩) hx5).trans n2
          clear hb6 n0 n1 n2 y0 y1 y2
          go_wp2_with fail
          refine (HDO.out _).mono ?_
          rintro e w7 ⟨rfl, hb7⟩
          have HB7 := Lib.hid (HB6.out.trans (hb7.mono HB6.out.size))
          have HF7 := Lib.hid (HF6.out.below hb7)
          clear hb7 x0 x1 x2
          obtain ⟨f0, f1, z0, z1⟩ := HF7.out
          go_wp2_with fail
          obtain ⟨e0, e1⟩ := HF7.out.set 0 0
          refine bodyPost_ret (v := .tuple #[.int .i64 N, .agg #[.int .i64 0, .int .i64 0]]) (by simp [results, Tryd.results27, go_sem, e0, e1]) rfl ⟨N, 0, 0, rfl, HOUT.out, ?_⟩
          exact (HB7.out.setCell (by simp) _).setCell (by simp) _
      · have hl3 : (10 : Int) < (s.size : Int) := by omega
        go_wp2
        obtain ⟨e0, e1⟩ := HFB.out.set 1 10
        have HOUT : Hid (ReadIs s 0 1 10) := .inr ⟨HALL.out, .inl ⟨by omega, rfl, rfl, rfl⟩⟩
        refine bodyPost_ret (v := .tuple #[.int .i64 0, .agg #[.int .i64 1, .int .i64 10]]) (by simp [results, Tryd.results27, go_sem, e0, e1]) rfl ⟨0, 1, 10, rfl, HOUT.out, ?_⟩
        exact (HBL.out.setCell (by simp) _).setCell (by simp) _
end Go.Proofs.YtmjnngneigjkkaaDoor
