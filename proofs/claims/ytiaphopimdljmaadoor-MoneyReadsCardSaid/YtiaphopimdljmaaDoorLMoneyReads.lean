/-
  The walk of the law MoneyReads: it answers true at every text of at most 2^47 - 4096 bytes, in every world that holds the library's table.
-/
import Derived.Test.YtiaphopimdljmaaDoorMBegun
import Derived.Test.YtiaphopimdljmaaDoorMReadS
namespace Go.Proofs.YtiaphopimdljmaaDoor
open Go.RowKit

theorem rm_nothing (s : ByteArray) (w : World) (h0 : s.size = 0) :
    Calls Tryd.prog 25 #[.string s] w fun e w' => e = .returned (.tuple #[.int .i64 0, .agg #[.int .i64 1, .int .i64 0]]) ∧ Below w.heap.size w w' := by
  have hd : digB s 0 = false := by
    cases h : digB s 0
    · rfl
    · have := digB_lt h; omega
  have h00 : decide ((0 : Int) < (s.size : Int)) = false := decide_eq_false (by omega)
  have h01 : decide (0 < s.size) = false := decide_eq_false (by omega)
  clear h0
  go_enter Tryd.func25, Tryd.ntmps25
  go_wp2_with fail
  go_loop [4, 5] (fun i v => i = .int .i64 0 ∧ v = .int .i64 0) (fun _ _ => 0)
  case atStart => exact ⟨rfl, rfl⟩
  case round =>
    obtain ⟨rfl, rfl⟩ := hrel
    go_wp2_with (go_at_call 40; refine (isDigit_ref _ 0 _ (by omega)).mono ?_; rintro e w' ⟨rfl, rfl⟩; rw [show (0 : Int).toNat = 0 from rfl, hd])
    refine bodyPost_ret (v := .tuple #[.int .i64 _, .agg #[.int .i64 _, .int .i64 _]]) (by simp [results, Tryd.results25, go_sem] <;> rfl) rfl ⟨rfl, ?_⟩
    exact (Below.refl _ _).alloc (Nat.le_refl _) _

theorem rdV_V {s : ByteArray} {a p : Nat} {v1 V : Int} (hv : v1 = vTo s a 0 (p - a)) (h0 : 0 ≤ v1) (hd1 : digB s (p + 1) = true) (hd2 : digB s (p + 2) = true) (hV : V = 10 * (10 * v1 + bt s (p + 1) - 48) + bt s (p + 2) - 48) :
    0 ≤ V ∧ (V ≤ 1000000000000 → rdV s a p = V) ∧ (1000000000000 < V → 1000000000000 < rdV s a p) := by
  have q1 := of_decide_eq_true hd1
  have q2 := of_decide_eq_true hd2
  have e : rdV s a p = sat (sat v1 (bt s (p + 1) - 48)) (bt s (p + 2) - 48) := by unfold rdV; rw [← hv]; rfl
  rw [e]
  unfold sat
  refine ⟨by omega, fun h => ?_, fun h => ?_⟩
  · rw [if_pos (show v1 ≤ 1000000000000 by omega), if_pos (by omega)]; omega
  · by_cases h1 : v1 ≤ 1000000000000
    · rw [if_pos h1]
      by_cases h2 : 10 * v1 + (bt s (p + 1) - 48) ≤ 1000000000000
      · rw [if_pos h2]; omega
      · rw [if_neg h2]; omega
    · rw [if_neg h1, if_neg h1]; omega

/-- THE REFERENCE's ReadMoney AT EVERY TEXT. -/
theorem readR_any (s : ByteArray) (w : World) (hs : s.size ≤ 140737488351232) :
    Calls Tryd.prog 25 #[.string s] w fun e w' => e = .returned (.tuple #[.int .i64 (rmN s), .agg #[.int .i64 (rmE s), .int .i64 (rmA s)]]) ∧ Below w.heap.size w w' := by
  by_cases h0 : 0 < s.size
  · by_cases hm : bt s 0 = 45
    · have hst : mStart s = 1 := by unfold mStart; rw [if_pos hm]
      have hge := wEnd_ge s 1
      have hle := wEnd_le s 1 (by omega)
      have eW : wrAt s (mStart s) (wEnd s (mStart s)) = wrAt s 1 (wEnd s 1) := by rw [hst]
      have wrong : ∀ x : Int, x ≠ -1 → wrAt s 1 (wEnd s 1) = x → rmN s = 0 ∧ rmE s = 1 ∧ rmA s = x := fun x hx h => by
        have e1 : rmE s = 1 := by unfold rmE; rw [eW, if_pos (by rw [h]; exact hx)]
        refine ⟨by unfold rmN; rw [if_pos (by rw [e1]; decide)], e1, by unfold rmA; rw [eW, if_pos (by rw [h]; exact hx), h]⟩
      generalize hp : wEnd s 1 = p at *
      generalize hv : vTo s 1 0 (p - 1) = v1 at *
      by_cases h1 : p = 1
      · have hd : digB s p = false := by
          rcases w_stop s 1 (by omega) with h | ⟨h, _⟩
          · rw [hp] at h; exact h
          · rw [hp] at h; exact absurd h1 h
        obtain ⟨e1, e2, e3⟩ := wrong p (by omega) (by unfold wrAt; rw [if_pos h1]; omega)
        rw [e1, e2, e3]
        exact rm_empty1 s w p v1 hs h0 hm hp.symm hv.symm h1 hd
      by_cases h2 : p < s.size
      · by_cases h3 : bt s p = 46
        · have hd : digB s p = false := decide_eq_false (by rw [h3]; omega)
          cases h4 : digB s (p + 1)
          · obtain ⟨e1, e2, e3⟩ := wrong (p + 1) (by omega) (by unfold wrAt; rw [if_neg h1, if_neg (by simp [h3]), if_pos h4])
            rw [e1, e2, e3]
            exact rm_one1 s w p v1 hs h0 hm hp.symm hv.symm h1 hd h2 h3 h4
          · cases h5 : digB s (p + 2)
            · obtain ⟨e1, e2, e3⟩ := wrong (p + 2) (by omega) (by unfold wrAt; rw [if_neg h1, if_neg (by simp [h3]), if_neg (by simp [h4]), if_pos h5])
              rw [e1, e2, e3]
              exact rm_two1 s w p v1 hs h0 hm hp.symm hv.symm h1 hd h2 h3 h4 h5
            · by_cases h6 : p + 3 < s.size
              · obtain ⟨e1, e2, e3⟩ := wrong (p + 3) (by omega) (by unfold wrAt; rw [if_neg h1, if_neg (by simp [h3]), if_neg (by simp [h4]), if_neg (by simp [h5]), if_pos h6])
                rw [e1, e2, e3]
                exact rm_long1 s w p v1 hs h0 hm hp.symm hv.symm h1 hd h2 h3 h4 h5 _ rfl h6
              · have hw : wrAt s 1 p = -1 := by unfold wrAt; rw [if_neg h1, if_neg (by simp [h3]), if_neg (by simp [h4]), if_neg (by simp [h5]), if_neg h6]
                have hv0 : 0 ≤ v1 := by
                  have := vTo_bd s 1 0 (by omega) (by omega) (p - 1) (fun j hj => wEnd_dig s 1 (1 + j) (by omega) (by omega))
                  omega
                obtain ⟨V, hV⟩ : ∃ V : Int, V = 10 * (10 * v1 + bt s (p + 1) - 48) + bt s (p + 2) - 48 := ⟨_, rfl⟩
                obtain ⟨r0, r1, r2⟩ := rdV_V hv.symm hv0 h4 h5 hV
                have eA : rmA s = 0 := by unfold rmA; rw [eW, if_neg (by simp [hw])]
                by_cases hV1 : 1000000000000 < V
                · have e1 : rmE s = 3 := by unfold rmE; rw [eW, if_neg (by simp [hw]), hst, hp, if_neg (by have := r2 hV1; omega), if_pos (r2 hV1)]
                  have e2 : rmN s = 0 := by unfold rmN; rw [if_pos (by rw [e1]; decide)]
                  rw [e1, e2, eA]
                  exact rm_range1 s w p v1 hs h0 hm hp.symm hv.symm h1 hd h2 h3 h4 h5 V hV h6 hV1
                · have hr := r1 (by omega)
                  by_cases hV0 : V = 0
                  · have e1 : rmE s = 1 := by unfold rmE; rw [eW, if_neg (by simp [hw]), hst, hp, if_pos ⟨rfl, by omega⟩]
                    have e2 : rmN s = 0 := by unfold rmN; rw [if_pos (by rw [e1]; decide)]
                    rw [e1, e2, eA]
                    exact rm_zero1 s w p v1 hs h0 hm hp.symm hv.symm h1 hd h2 h3 h4 h5 V hV h6 hV0
                  · have e1 : rmE s = 0 := by unfold rmE; rw [eW, if_neg (by simp [hw]), hst, hp, if_neg (by omega), if_neg (by omega)]
                    have e2 : rmN s = -V := by unfold rmN; rw [if_neg (by rw [e1]; simp), hst, if_pos rfl, hp, hr]
                    rw [e1, e2, eA]
                    exact rm_ok1 s w p v1 hs h0 hm hp.symm hv.symm h1 hd h2 h3 h4 h5 V hV h6 (by omega) (by omega)
        · rcases w_stop s 1 (by omega) with h | ⟨_, ha1, ha48, h⟩
          · rw [hp] at h
            obtain ⟨e1, e2, e3⟩ := wrong p (by omega) (by unfold wrAt; rw [if_neg h1, if_pos h3])
            rw [e1, e2, e3]
            exact rm_nopoint1 s w p v1 hs h0 hm hp.symm hv.symm h1 h h2 h3
          · rw [hp] at h
            obtain ⟨e1, e2, e3⟩ := wrong p (by omega) (by unfold wrAt; rw [if_neg h1, if_pos h3])
            rw [e1, e2, e3]
            exact rm_nought1 s w p v1 hs h0 hm hp.symm hv.symm h1 h h2 ha1 ha48
      · have hd : digB s p = false := by
          cases h : digB s p
          · rfl
          · exact absurd (digB_lt h) h2
        obtain ⟨e1, e2, e3⟩ := wrong p (by omega) (by unfold wrAt; rw [if_neg h1, if_pos (by rw [bt_out h2]; decide)])
        rw [e1, e2, e3]
        exact rm_short1 s w p v1 hs h0 hm hp.symm hv.symm h1 hd h2
    · have hst : mStart s = 0 := by unfold mStart; rw [if_neg hm]
      have hge := wEnd_ge s 0
      have hle := wEnd_le s 0 (by omega)
      have eW : wrAt s (mStart s) (wEnd s (mStart s)) = wrAt s 0 (wEnd s 0) := by rw [hst]
      have wrong : ∀ x : Int, x ≠ -1 → wrAt s 0 (wEnd s 0) = x → rmN s = 0 ∧ rmE s = 1 ∧ rmA s = x := fun x hx h => by
        have e1 : rmE s = 1 := by unfold rmE; rw [eW, if_pos (by rw [h]; exact hx)]
        refine ⟨by unfold rmN; rw [if_pos (by rw [e1]; decide)], e1, by unfold rmA; rw [eW, if_pos (by rw [h]; exact hx), h]⟩
      generalize hp : wEnd s 0 = p at *
      generalize hv : vTo s 0 0 (p - 0) = v1 at *
      by_cases h1 : p = 0
      · have hd : digB s p = false := by
          rcases w_stop s 0 (by omega) with h | ⟨h, _⟩
          · rw [hp] at h; exact h
          · rw [hp] at h; exact absurd h1 h
        obtain ⟨e1, e2, e3⟩ := wrong p (by omega) (by unfold wrAt; rw [if_pos h1]; omega)
        rw [e1, e2, e3]
        exact rm_empty0 s w p v1 hs h0 hm hp.symm hv.symm h1 hd
      by_cases h2 : p < s.size
      · by_cases h3 : bt s p = 46
        · have hd : digB s p = false := decide_eq_false (by rw [h3]; omega)
          cases h4 : digB s (p + 1)
          · obtain ⟨e1, e2, e3⟩ := wrong (p + 1) (by omega) (by unfold wrAt; rw [if_neg h1, if_neg (by simp [h3]), if_pos h4])
            rw [e1, e2, e3]
            exact rm_one0 s w p v1 hs h0 hm hp.symm hv.symm h1 hd h2 h3 h4
          · cases h5 : digB s (p + 2)
            · obtain ⟨e1, e2, e3⟩ := wrong (p + 2) (by omega) (by unfold wrAt; rw [if_neg h1, if_neg (by simp [h3]), if_neg (by simp [h4]), if_pos h5])
              rw [e1, e2, e3]
              exact rm_two0 s w p v1 hs h0 hm hp.symm hv.symm h1 hd h2 h3 h4 h5
            · by_cases h6 : p + 3 < s.size
              · obtain ⟨e1, e2, e3⟩ := wrong (p + 3) (by omega) (by unfold wrAt; rw [if_neg h1, if_neg (by simp [h3]), if_neg (by simp [h4]), if_neg (by simp [h5]), if_pos h6])
                rw [e1, e2, e3]
                exact rm_long0 s w p v1 hs h0 hm hp.symm hv.symm h1 hd h2 h3 h4 h5 _ rfl h6
              · have hw : wrAt s 0 p = -1 := by unfold wrAt; rw [if_neg h1, if_neg (by simp [h3]), if_neg (by simp [h4]), if_neg (by simp [h5]), if_neg h6]
                have hv0 : 0 ≤ v1 := by
                  have := vTo_bd s 0 0 (by omega) (by omega) (p - 0) (fun j hj => wEnd_dig s 0 (0 + j) (by omega) (by omega))
                  omega
                obtain ⟨V, hV⟩ : ∃ V : Int, V = 10 * (10 * v1 + bt s (p + 1) - 48) + bt s (p + 2) - 48 := ⟨_, rfl⟩
                obtain ⟨r0, r1, r2⟩ := rdV_V hv.symm hv0 h4 h5 hV
                have eA : rmA s = 0 := by unfold rmA; rw [eW, if_neg (by simp [hw])]
                by_cases hV1 : 1000000000000 < V
                · have e1 : rmE s = 3 := by unfold rmE; rw [eW, if_neg (by simp [hw]), hst, if_neg (by simp), hp, if_pos (r2 hV1)]
                  have e2 : rmN s = 0 := by unfold rmN; rw [if_pos (by rw [e1]; decide)]
                  rw [e1, e2, eA]
                  exact rm_range0 s w p v1 hs h0 hm hp.symm hv.symm h1 hd h2 h3 h4 h5 V hV h6 hV1
                · have hr := r1 (by omega)
                  have e1 : rmE s = 0 := by unfold rmE; rw [eW, if_neg (by simp [hw]), hst, if_neg (by simp), hp, if_neg (by omega)]
                  have e2 : rmN s = V := by unfold rmN; rw [if_neg (by rw [e1]; simp), hst, if_neg (by decide), hp, hr]
                  rw [e1, e2, eA]
                  exact rm_ok0 s w p v1 hs h0 hm hp.symm hv.symm h1 hd h2 h3 h4 h5 V hV h6 (by omega)
        · rcases w_stop s 0 (by omega) with h | ⟨_, ha1, ha48, h⟩
          · rw [hp] at h
            obtain ⟨e1, e2, e3⟩ := wrong p (by omega) (by unfold wrAt; rw [if_neg h1, if_pos h3])
            rw [e1, e2, e3]
            exact rm_nopoint0 s w p v1 hs h0 hm hp.symm hv.symm h1 h h2 h3
          · rw [hp] at h
            obtain ⟨e1, e2, e3⟩ := wrong p (by omega) (by unfold wrAt; rw [if_neg h1, if_pos h3])
            rw [e1, e2, e3]
            exact rm_nought0 s w p v1 hs h0 hm hp.symm hv.symm h1 h h2 ha1 ha48
      · have hd : digB s p = false := by
          cases h : digB s p
          · rfl
          · exact absurd (digB_lt h) h2
        obtain ⟨e1, e2, e3⟩ := wrong p (by omega) (by unfold wrAt; rw [if_neg h1, if_pos (by rw [bt_out h2]; decide)])
        rw [e1, e2, e3]
        exact rm_short0 s w p v1 hs h0 hm hp.symm hv.symm h1 hd h2
  · have hm : bt s 0 ≠ 45 := by rw [bt_out h0]; decide
    have hst : mStart s = 0 := by unfold mStart; rw [if_neg hm]
    have hp : wEnd s 0 = 0 := by
      have := wEnd_le s 0 (by omega)
      omega
    have hw : wrAt s 0 0 = 0 := by unfold wrAt; rw [if_pos rfl]; rfl
    have e1 : rmE s = 1 := by unfold rmE; rw [hst, hp, if_pos (by rw [hw]; decide)]
    have e2 : rmN s = 0 := by unfold rmN; rw [if_pos (by rw [e1]; decide)]
    have e3 : rmA s = 0 := by unfold rmA; rw [hst, hp, if_pos (by rw [hw]; decide), hw]
    rw [e1, e2, e3]
    exact rm_nothing s w (by omega)

set_option maxHeartbeats 1000000 in
theorem walk_moneyReads (s : ByteArray) (hs : s.size ≤ 140737488351232) (w : World) (ht : Tab w) :
    Calls Tryd.prog 7 #[.string s] w fun e w' => e = .returned (.bool true) ∧ Below w.heap.size w w' := by
  have HT := Lib.hid ht
  have H1 := Lib.hid (fun w => read_any s w hs)
  have H2 := Lib.hid (fun w => readR_any s w hs)
  clear ht
  generalize rmN s = N at *
  generalize rmE s = E at *
  generalize rmA s = A at *
  go_enter Tryd.func7, Tryd.ntmps7
  go_wp2_with fail
  refine (H1.out w).mono ?_
  rintro e w1 ⟨rfl, hb1⟩
  have HB1 := Lib.hid hb1
  clear hb1
  go_wp2_with fail
  refine (H2.out _).mono ?_
  rintro e w2 ⟨rfl, hb2⟩
  have HB2 := Lib.hid hb2
  clear hb2
  go_wp2_with fail
  have HB3 : Hid (Below w.heap.size w w2) := by
    have h1 := HB1.out
    have h2 := HB2.out
    exact (h1.alloc h1.size _).trans (h2.mono (by have := h1.size; simp; omega))
  have hsz : w1.heap.size < w2.heap.size := by have := HB2.out.size; simp at this; omega
  have k0 : w2.cell? ⟨w1.heap.size, 0, none⟩ = some (.int .i64 E) := (HB2.out.cell (p := ⟨w1.heap.size, 0, none⟩) (by simp)).trans (by simp)
  have k1 : w2.cell? ⟨w1.heap.size, 1, none⟩ = some (.int .i64 A) := (HB2.out.cell (p := ⟨w1.heap.size, 1, none⟩) (by simp)).trans (by simp)
  refine (begun _ (HT.out.below (HB3.out.alloc HB3.out.size _))).mono ?_
  rintro e w3 ⟨rfl, hb3⟩
  have HB4 : Hid (Below w.heap.size w w3) := (HB3.out.alloc HB3.out.size _).trans (hb3.mono (by have := HB3.out.size; simp; omega))
  have m0 : w3.cell? ⟨w1.heap.size, 0, none⟩ = some (.int .i64 E) := (hb3.cell (p := ⟨w1.heap.size, 0, none⟩) (by simp; omega)).trans ((World.cell?_alloc_past (w := w2) _ _ _ hsz).trans k0)
  have m1 : w3.cell? ⟨w1.heap.size, 1, none⟩ = some (.int .i64 A) := (hb3.cell (p := ⟨w1.heap.size, 1, none⟩) (by simp; omega)).trans ((World.cell?_alloc_past (w := w2) _ _ _ hsz).trans k1)
  have m2 : w3.cell? ⟨w2.heap.size, 0, none⟩ = some (.int .i64 E) := (hb3.cell (p := ⟨w2.heap.size, 0, none⟩) (by simp)).trans (by simp)
  have m3 : w3.cell? ⟨w2.heap.size, 1, none⟩ = some (.int .i64 A) := (hb3.cell (p := ⟨w2.heap.size, 1, none⟩) (by simp)).trans (by simp)
  clear k0 k1 hb3
  go_wp2_with fail
  go_ret
  exact ⟨rfl, HB4.out⟩
end Go.Proofs.YtiaphopimdljmaaDoor
