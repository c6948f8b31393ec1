/-
  Promise P3: the walks of sign, digits and name.
-/
import Derived.Test.YtdfgkngfpedgdaaDoorBTake
import Derived.Test.YtdfgkngfpedgdaaDoorShelf
namespace Go.Proofs.YtdfgkngfpedgdaaDoor
open Go.RowKit

theorem took_from {Q : Nat → Bool} {b : Nat} {s : ByteArray} {k n : Nat} {w u : World} {e : Ending} {w' : World} (h : Took Q b s k n u e w') (hg : w.grownBy u (some b)) : Took Q b s k n w e w' := ⟨hg.trans h.1, h.2⟩
theorem dig_enters : ∀ args w, (callFunc 30 args).run Tryd.prog w = .ok (.enter 30 args) w := enters_of Tryd.func30 (by kernel_rfl) rfl
theorem sign_enters : ∀ args w, (callFunc 75 args).run Tryd.prog w = .ok (.enter 75 args) w := enters_of Tryd.func75 (by kernel_rfl) rfl
theorem name_enters : ∀ args w, (callFunc 81 args).run Tryd.prog w = .ok (.enter 81 args) w := enters_of Tryd.func81 (by kernel_rfl) rfl
theorem digits_any (b : Nat) (s : ByteArray) (k n : Nat) (w : World) (hr : Rd w b s k) (hk : k ≤ s.size) (hk2 : k ≤ 100000) (hn : n ≤ 100) (hs : s.size ≤ 9223372036854775807) :
    Calls Tryd.prog 69 #[.pointer (some ⟨b, 0, none⟩), .int .i64 (n : Int)] w fun e w' => Took (fun j => digB (bt s (k + j))) b s k n w e w' := by
  have HT := Lib.hid (take_gen 30 #[] (fun _ r => digB r) (fun _ => w) w.heap.size b s k n (fun r w => dig_enters _ w) (fun _ => rfl) (fun _ => hr) (fun _ r h => digB_hi r h) (fun _ => by decide)
    (fun _ r p q => bDigit_one r _) hk hk2 hn hs)
  clear hr
  go_enter Tryd.func69, Tryd.ntmps69
  go_wp2_with fail
  refine HT.out.mono ?_
  rintro e w' ⟨_, hg, ⟨rfl, h⟩ | ⟨o, ho, rfl, h⟩⟩
  · have HG := Lib.hid hg
    have H := Lib.hid h
    clear hg h
    go_wp2_with fail
    go_ret
    exact ⟨HG.out, .inl ⟨rfl, H.out⟩⟩
  · have HG := Lib.hid hg
    have H := Lib.hid h
    clear hg h
    go_wp2_with fail
    exact ⟨rfl, HG.out, .inr ⟨o, ho, rfl, H.out⟩⟩
/-- Is it this byte? -/
def eqB (z r : Int) : Bool := decide (r = z)
theorem sign1_any (c : Nat) (z r : Int) (w : World) (h : w.cell? ⟨c, 0, none⟩ = some (.int .i32 z)) :
    Calls Tryd.prog 75 #[.int .i32 r, .pointer (some ⟨c, 0, none⟩)] w fun e w' => e = .returned (.bool (eqB z r)) ∧ w' = w := by
  have HE : Hid (eqB z r = decide (r = z)) := rfl
  generalize eqB z r = q at *
  go_enter Tryd.func75, Tryd.ntmps75
  go_wp2_with fail
  go_ret
  exact ⟨tret_bool HE.out.symm, rfl⟩
theorem sign_any (b : Nat) (s : ByteArray) (k : Nat) (z : Int) (w : World) (hz : 0 ≤ z ∧ z < 128) (hr : Rd w b s k) (hk : k ≤ s.size) (hk2 : k ≤ 100000) (hs : s.size ≤ 9223372036854775807) :
    Calls Tryd.prog 68 #[.pointer (some ⟨b, 0, none⟩), .int .i32 z] w fun e w' => w.grownBy w' (some b) ∧ ((e = .returned (.tuple #[]) ∧ eqB z (bt s k) = true ∧ Rd w' b s (k + 1) ∧ k + 1 ≤ s.size) ∨ (e = .panicked (gone 1 (k : Int)) ∧ eqB z (bt s k) = false)) := by
  have hrb := hr.below ((Below.refl w.heap.size w).alloc (Nat.le_refl _) (.cells #[.int .i32 z] 21)) hr.lt
  have HT := Lib.hid (take_gen 75 #[.pointer (some ⟨w.heap.size, 0, none⟩)] (fun _ r => eqB z r) (fun _ => w.alloc (.cells #[.int .i32 z] 21)) (w.heap.size + 1) b s k 1 (fun r w => sign_enters _ w) (fun _ => by simp) (fun _ => hrb) (fun _ r h => decide_eq_false (by omega)) (fun _ => decide_eq_false (by omega))
    (fun _ r p q => sign1_any w.heap.size z r _ (((below_di (w.alloc (.cells #[.int .i32 z] 21)) p q).cell (p := ⟨w.heap.size, 0, none⟩) (by simp)).trans (by simp))) hk hk2 (by omega) hs)
  clear hr hrb
  go_enter Tryd.func68, Tryd.ntmps68
  have hmf : ∀ (fn : Fn) (first cap : Array Value) (w : World), (Instr.makeFunc fn first cap).run Tryd.prog w = .ok (.func fn first cap) w := fun _ _ _ _ => rfl
  go_wp2_with fail
  refine HT.out.mono ?_
  rintro e w' ⟨_, hg, ⟨rfl, h, h2⟩ | ⟨o, ho, rfl, h, h2⟩⟩
  · have HG := Lib.hid ((World.grownBy_alloc w (.cells #[.int .i32 z] 21) (some b)).trans hg)
    have H := Lib.hid (h 0 (by omega))
    have H2 := Lib.hid h2
    clear hg h h2
    go_wp2_with fail
    go_end0
    exact ⟨HG.out, .inl ⟨rfl, H.out, H2.out⟩⟩
  · obtain rfl : o = 0 := by omega
    have HG := Lib.hid ((World.grownBy_alloc w (.cells #[.int .i32 z] 21) (some b)).trans hg)
    have H := Lib.hid h2
    clear hg h h2
    go_wp2_with fail
    exact ⟨rfl, HG.out, .inr ⟨rfl, H.out⟩⟩
/-- Does a byte fit into a name's field, behind another one? -/
def nmF (z r : Int) : Bool := (letB r && !decide (z = 46)) || (decide (r = 46) && !decide (z = 0))
theorem nmF_hi (z r : Int) (h : 128 ≤ r) : nmF z r = false := by
  unfold nmF
  rw [letB_hi r h, decide_eq_false (show ¬ r = 46 by omega)]
  rfl
theorem nmF_neg (z : Int) : nmF z (-1) = false := by
  unfold nmF
  rw [show letB (-1) = false by decide, decide_eq_false (show ¬ (-1 : Int) = 46 by omega)]
  rfl
set_option maxRecDepth 100000 in
set_option maxHeartbeats 1000000 in
theorem name1_any (c : Nat) (z r : Int) (w : World) (h : w.cell? ⟨c, 0, none⟩ = some (.int .i32 z)) (hf : w.frozen? ⟨c, 0, none⟩ = false) :
    Calls Tryd.prog 81 #[.int .i32 r, .pointer (some ⟨c, 0, none⟩)] w fun e w' => e = .returned (.bool (nmF z r)) ∧ w' = w.setCell ⟨c, 0, none⟩ (.int .i32 r) := by
  have HE : Hid (nmF z r = ((letB r && !decide (z = 46)) || (decide (r = 46) && !decide (z = 0)))) := rfl
  have HL := Lib.hid (fun w => bLetter_one r w)
  generalize nmF z r = q at *
  generalize letB r = lb at *
  by_cases h2 : r = 46
  · subst h2
    by_cases h1 : z = 46
    · subst h1
      cases lb
      all_goals (
      go_enter Tryd.func81, Tryd.ntmps81
      go_wp2_with (go_at_call 62; refine (HL.out _).mono ?_; rintro e w' ⟨rfl, h'⟩; subst w')
      go_ret
      exact ⟨tret_bool (HE.out.trans (by first | decide | simp [h3])).symm, rfl⟩)
    · have hd1 : decide (z = 46) = false := decide_eq_false h1
      rw [hd1] at HE
      by_cases h3 : z = 0
      · subst h3
        cases lb
        all_goals (
        go_enter Tryd.func81, Tryd.ntmps81
        go_wp2_with (go_at_call 62; refine (HL.out _).mono ?_; rintro e w' ⟨rfl, h'⟩; subst w')
        go_ret
        exact ⟨tret_bool (HE.out.trans (by first | decide | simp [h3])).symm, rfl⟩)
      · have hd3 : decide (z = 0) = false := decide_eq_false h3
        rw [hd3] at HE
        cases lb
        all_goals (
        go_enter Tryd.func81, Tryd.ntmps81
        go_wp2_with (go_at_call 62; refine (HL.out _).mono ?_; rintro e w' ⟨rfl, h'⟩; subst w')
        go_ret
        exact ⟨tret_bool (HE.out.trans (by first | decide | simp [h3])).symm, rfl⟩)
  · have hd2 : decide (r = 46) = false := decide_eq_false h2
    rw [hd2] at HE
    by_cases h1 : z = 46
    · subst h1
      cases lb
      all_goals (
      go_enter Tryd.func81, Tryd.ntmps81
      go_wp2_with (go_at_call 62; refine (HL.out _).mono ?_; rintro e w' ⟨rfl, h'⟩; subst w')
      go_ret
      exact ⟨tret_bool (HE.out.trans (by first | decide | simp [h3])).symm, rfl⟩)
    · have hd1 : decide (z = 46) = false := decide_eq_false h1
      rw [hd1] at HE
      by_cases h3 : z = 0
      · subst h3
        cases lb
        all_goals (
        go_enter Tryd.func81, Tryd.ntmps81
        go_wp2_with (go_at_call 62; refine (HL.out _).mono ?_; rintro e w' ⟨rfl, h'⟩; subst w')
        go_ret
        exact ⟨tret_bool (HE.out.trans (by first | decide | simp [h3])).symm, rfl⟩)
      · have hd3 : decide (z = 0) = false := decide_eq_false h3
        rw [hd3] at HE
        cases lb
        all_goals (
        go_enter Tryd.func81, Tryd.ntmps81
        go_wp2_with (go_at_call 62; refine (HL.out _).mono ?_; rintro e w' ⟨rfl, h'⟩; subst w')
        go_ret
        exact ⟨tret_bool (HE.out.trans (by first | decide | simp [h3])).symm, rfl⟩)
/-- A name's field without its points. -/
def nmT (s : ByteArray) (k : Nat) : ByteArray := ⟨(Lib.trimRightB (s.extract k (k + 12)).data.toList 46).toArray⟩
theorem box_put (w : World) (z r : Int) (T : TypeId) (p : ByteArray) (q : Nat) : ((w.alloc (.cells #[.int .i32 z] T)).drew.iter p q).setCell ⟨w.heap.size, 0, none⟩ (.int .i32 r) = (w.alloc (.cells #[.int .i32 r] T)).drew.iter p q := by
  simp only [World.setCell, World.iter, World.alloc, World.drew]
  congr 1
  apply Array.ext
  · simp
  · intro i h1 h2
    simp only [Array.getElem_modify, Array.getElem_push]
    simp only [Array.size_push] at h2
    by_cases e1 : i < w.heap.size
    · have e2 : ¬ w.heap.size = i := by omega
      simp [e1, e2, show i < w.heap.size + 1 by omega]
    · by_cases e2 : w.heap.size = i
      · subst e2
        simp
      · have e3 : ¬ i < w.heap.size + 1 := by omega
        simp [e2, e3]
set_option maxRecDepth 100000 in
set_option maxHeartbeats 1000000 in
theorem name_any (b : Nat) (s : ByteArray) (k : Nat) (w : World) (hr : Rd w b s k) (hk : k ≤ s.size) (hk2 : k ≤ 100000) (hs : s.size ≤ 9223372036854775807) :
    Calls Tryd.prog 76 #[.pointer (some ⟨b, 0, none⟩)] w fun e w' => w.grownBy w' (some b) ∧ ((e = .returned (.string (nmT s k)) ∧ (∀ j, j < 12 → nmF (prv s k j) (bt s (k + j)) = true) ∧ Rd w' b s (k + 12) ∧ k + 12 ≤ s.size) ∨ ∃ o, o < 12 ∧ e = .panicked (gone 1 ((k + o : Nat) : Int)) ∧ (∀ j, j < o → nmF (prv s k j) (bt s (k + j)) = true) ∧ nmF (prv s k o) (bt s (k + o)) = false) := by
  have hrb : ∀ z : Int, Rd (w.alloc (.cells #[.int .i32 z] 21)) b s k := fun z => hr.below ((Below.refl w.heap.size w).alloc (Nat.le_refl _) _) hr.lt
  have HT := Lib.hid (take_gen 81 #[.pointer (some ⟨w.heap.size, 0, none⟩)] nmF (fun z => w.alloc (.cells #[.int .i32 z] 21)) (w.heap.size + 1) b s k 12 (fun r w => name_enters _ w) (fun _ => by simp) hrb nmF_hi nmF_neg
    (fun z r p q => (name1_any w.heap.size z r _ (((below_di (w.alloc (.cells #[.int .i32 z] 21)) p q).cell (p := ⟨w.heap.size, 0, none⟩) (by simp)).trans (by simp)) (((below_di (w.alloc (.cells #[.int .i32 z] 21)) p q).frozen (p := ⟨w.heap.size, 0, none⟩) (by simp)).trans (by simp))).mono fun _ _ h => ⟨h.1, h.2.trans (box_put w z r 21 p q)⟩) hk hk2 (by omega) hs)
  have HNT : Hid (nmT s k = ⟨(Lib.trimRightB (s.extract k (k + 12)).data.toList 46).toArray⟩) := rfl
  generalize nmT s k = nt at *
  clear hr hrb
  have hmf : ∀ (fn : Fn) (first cap : Array Value) (w : World), (Instr.makeFunc fn first cap).run Tryd.prog w = .ok (.func fn first cap) w := fun _ _ _ _ => rfl
  go_enter Tryd.func76, Tryd.ntmps76
  go_wp2_with fail
  refine HT.out.mono ?_
  rintro e w' ⟨z, hg, ⟨rfl, h⟩ | ⟨o, ho, rfl, h⟩⟩
  · have HG := Lib.hid ((World.grownBy_alloc w (.cells #[.int .i32 z] 21) (some b)).trans hg)
    have H := Lib.hid h
    clear hg h
    go_wp2_with fail
    refine (sh_strings_TrimRight_one (s.extract k (k + 12)) 46 (by decide) _ (by rw [ByteArray.size_extract]; omega)).mono ?_
    rintro e w2 ⟨rfl, h2⟩
    subst w2
    rw [← HNT.out]
    go_wp2_with fail
    go_ret
    exact ⟨HG.out, .inl ⟨rfl, H.out⟩⟩
  · have HG := Lib.hid ((World.grownBy_alloc w (.cells #[.int .i32 z] 21) (some b)).trans hg)
    have H := Lib.hid h
    clear hg h
    go_wp2_with fail
    exact ⟨rfl, HG.out, .inr ⟨o, ho, rfl, H.out⟩⟩
end Go.Proofs.YtdfgkngfpedgdaaDoor
