/-
  The walk of the law TokenNames: it answers true at every text.
-/
import Derived.Test.YtgiacemmigjloaaDoorTNamed
namespace Go.Proofs.YtgiacemmigjloaaDoor
open Go.RowKit

theorem kret_bool {a b : Bool} (h : a = b) : Ending.returned (.bool a) = .returned (.bool b) := by rw [h]
theorem abc_name : NameP ⟨#[97, 98, 99, 100, 101, 102, 103, 104]⟩ := by decide +kernel
set_option maxRecDepth 100000 in
set_option maxHeartbeats 1000000 in
theorem walk_tokenNames (s : ByteArray) (hs : s.size ≤ 140737488351232) (w : World) (hT : TabE w) :
    Calls Tryd.prog 4 #[.string s] w fun e w' => e = .returned (.bool true) ∧ Below w.heap.size w w' := by
  have HT := Lib.hid hT
  clear hT
  go_enter Tryd.func4, Tryd.ntmps4
  go_wp2_with fail
  refine (IsName_any s w).mono ?_
  rintro e w1 ⟨b, rfl, hb, hb1⟩
  have HB1 := Lib.hid hb1
  have HN := Lib.hid hb
  clear hb1 hb
  go_wp2_with fail
  refine (begun_any w1 (HT.out.below HB1.out)).mono ?_
  rintro e w2 ⟨rfl, hb2⟩
  have HB2 := Lib.hid (HB1.out.trans (hb2.mono HB1.out.size))
  clear hb2
  go_wp2_with fail
  refine (isName_ref s w2 (by omega)).mono ?_
  rintro e w3 ⟨b', rfl, hb, hb3⟩
  obtain rfl : b' = b := by
    have h1 := HN.out
    cases b <;> cases b' <;> simp_all
  have HB3 := Lib.hid (HB2.out.trans (hb3.mono HB2.out.size))
  clear hb3 hb
  have hbb : (b' != b') = false := by simp
  go_wp2_with fail
  refine (IsName_any ⟨#[97, 98, 99, 100, 101, 102, 103, 104]⟩ _).mono ?_
  rintro e w4 ⟨c, rfl, hb, hb4⟩
  obtain rfl : c = true := hb.2 abc_name
  have HB4 := Lib.hid (HB3.out.trans (hb4.mono HB3.out.size))
  clear hb4 hb
  go_wp2_with fail
  refine (Split_any s _ (by omega) (HT.out.below HB4.out)).mono ?_
  rintro e w5 ⟨v, er, at', rfl, hsp, hb⟩
  have HB5 := Lib.hid (HB4.out.trans (hb.mono HB4.out.size))
  clear hb
  have hbf : ¬ NameP s → b' = false := fun h => by cases b'; rfl; exact absurd (HN.out.1 rfl) h
  rcases hsp with ⟨h4, rfl, rfl, rfl⟩ | ⟨_, ⟨L, hT, hG, rfl, rfl⟩ | ⟨a, L, o, hT, ha, hf, rfl, rfl⟩⟩
  · obtain rfl := hbf (fun h => by have := h.2.1; omega)
    clear hbf hbb
    go_wp2_with fail
    go_ret
    exact ⟨kret_bool (by simp), HB5.out.alloc HB5.out.size _⟩
  · rcases hG.form with ⟨rfl, rfl⟩ | ⟨g, c, rfl, hB, hl, hat⟩
    · obtain rfl := hbf (fun h => by
        rcases toks_name h hT with ⟨h', _⟩ | ⟨_, h'⟩
        · have := h.1; omega
        · cases h')
      clear hbf hbb hT hG
      go_wp2_with fail
      go_ret
      exact ⟨kret_bool (by simp), HB5.out.alloc HB5.out.size _⟩
    · by_cases h1 : L.length = 1
      · match L, h1 with
        | [t], _ =>
          obtain ⟨y0, y1, _, _, _⟩ := hat 0 (by simp)
          simp only [tnth_zero, Nat.zero_mul] at y0 y1
          have hl1 : ([t] : List Tk).length = 1 := rfl
          rw [hl1]
          by_cases hk : t.k = 1
          · by_cases hx : t.txt = s
            · have hNP : NameP s := toks_one (by have := hT.len; rw [hl1] at this; omega) hk hx hT rfl
              obtain rfl : b' = true := HN.out.2 hNP
              clear hbf hbb hT hG hat hNP
              rw [hk] at y0
              rw [hx] at y1
              go_wp2_with fail
              go_ret
              exact ⟨kret_bool (by simp), HB5.out.alloc HB5.out.size _⟩
            · obtain rfl := hbf (fun h => by
                rcases toks_name h hT with ⟨h', _⟩ | ⟨_, h'⟩
                · have := h.1; omega
                · injection h' with h'
                  subst h'
                  exact hx rfl)
              have hxB : (t.txt.toList == s.toList) = false := by
                simp only [beq_eq_false_iff_ne, ne_eq]
                exact fun e => hx (bytes_inj e)
              clear hbf hbb hT hG hat
              rw [hk] at y0
              go_wp2_with fail
              go_ret
              exact ⟨kret_bool (by simp), HB5.out.alloc HB5.out.size _⟩
          · obtain rfl := hbf (fun h => by
              rcases toks_name h hT with ⟨h', _⟩ | ⟨_, h'⟩
              · have := h.1; omega
              · injection h' with h'
                subst h'
                exact hk rfl)
            have hkB : decide (t.k = 1) = false := decide_eq_false hk
            have hkE : (t.k == 1) = false := by simp [hk]
            clear hbf hbb hT hG hat
            go_wp2_with fail
            go_ret
            exact ⟨kret_bool (by simp), HB5.out.alloc HB5.out.size _⟩
      · obtain rfl := hbf (fun h => by
          rcases toks_name h hT with ⟨h', _⟩ | ⟨_, h'⟩
          · have := h.1; omega
          · subst h'
            exact h1 rfl)
        have h1B : decide ((L.length : Int) = 1) = false := decide_eq_false (by omega)
        have h1E : ((L.length : Int) == 1) = false := by simp; omega
        clear hbf hbb hT hG hat
        go_wp2_with fail
        go_ret
        exact ⟨kret_bool (by simp), HB5.out.alloc HB5.out.size _⟩
  · obtain rfl := hbf (fun h => by
      rcases toks_name h hT with ⟨rfl, _⟩ | ⟨rfl, _⟩
      · rw [extract_all, first_name h] at hf
        cases hf
      · omega)
    have he : er ≠ 0 := by rcases (bad_err hf).1 with h | h <;> omega
    have heB : decide (er = 0) = false := decide_eq_false he
    have heE : (er == 0) = false := by simp [he]
    clear hbf hbb hT
    go_wp2_with fail
    go_ret
    exact ⟨kret_bool (by simp), HB5.out.alloc HB5.out.size _⟩
end Go.Proofs.YtgiacemmigjloaaDoor
