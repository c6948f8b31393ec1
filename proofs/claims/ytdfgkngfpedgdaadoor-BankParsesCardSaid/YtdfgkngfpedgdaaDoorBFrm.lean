/-
  Promise P3: the reference's forms of lines say what the places of a file say; its line, at the three forms.
-/
import Derived.Test.YtdfgkngfpedgdaaDoorBLine
import Derived.Test.YtdfgkngfpedgdaaDoorLBankPrints
namespace Go.Proofs.YtdfgkngfpedgdaaDoor
open Go.RowKit

def fmH : ByteArray := ⟨#[70, 48, 48, 48, 48, 48, 48, 48, 48, 48, 48, 48, 48, 48, 48, 48, 48, 48, 48, 48, 48, 48, 48, 48, 10]⟩
def fmP : ByteArray := ⟨#[80, 48, 48, 48, 48, 48, 48, 48, 48, 48, 48, 48, 48, 48, 48, 48, 48, 48, 48, 48, 48, 48, 48, 48, 48, 48, 48, 48, 48, 48, 48, 48, 110, 110, 110, 110, 110, 110, 110, 110, 110, 110, 110, 110, 10]⟩
def fmE : ByteArray := ⟨#[69, 48, 48, 48, 48, 48, 48, 48, 48, 48, 48, 10]⟩
theorem fmH_bt : ∀ j, j < 25 → bt fmH j = if j = 0 then 70 else if j < 24 then 48 else 10 := by decide +kernel
theorem fmP_bt : ∀ j, j < 45 → bt fmP j = if j = 0 then 80 else if j < 32 then 48 else if j < 44 then 110 else 10 := by decide +kernel
theorem fmE_bt : ∀ j, j < 12 → bt fmE j = if j = 0 then 69 else if j < 11 then 48 else 10 := by decide +kernel
theorem fmH_size : fmH.size = 25 := rfl
theorem fmP_size : fmP.size = 45 := rfl
theorem fmE_size : fmE.size = 12 := rfl
theorem form_head (s : ByteArray) {j : Nat} (hj : j < 25) : formQ s 0 100 fmH j = headQ s j := by
  unfold formQ headQ fitR
  rw [fmH_bt j hj, Nat.zero_add]
  by_cases e0 : j = 0
  · simp [e0]
  · by_cases e1 : j < 24
    · simp [e0, e1]
    · simp [e0, e1]
theorem form_tail (s : ByteArray) (k : Nat) {j : Nat} (hj : j < 12) : formQ s k 100 fmE j = tailQ s k j := by
  unfold formQ tailQ fitR
  rw [fmE_bt j hj]
  by_cases e0 : j = 0
  · simp [e0]
  · by_cases e1 : j < 11
    · simp [e0, e1]
    · simp [e0, e1, hj]
theorem nmF_not0 {z r : Int} (h : nmF z r = true) : r ≠ 0 := by
  intro e
  subst e
  unfold nmF at h
  simp [letB] at h
theorem form_line (s : ByteArray) (k : Nat) {j : Nat} (hj : j < 45) (hq : ∀ q, q < j → lineQ s k q = true) : formQ s k 32 fmP j = lineQ s k j := by
  unfold formQ fitR
  rw [fmP_bt j hj]
  by_cases e0 : j = 0
  · simp [e0, lineQ]
  · by_cases e1 : j < 32
    · simp [e0, e1, lineQ]
    · by_cases e2 : j < 44
      · have hN := lineQ_nam s k (j - 32) (by omega)
        rw [show 32 + (j - 32) = j by omega, show k + 32 + (j - 32) = k + j by omega] at hN
        rw [hN]
        simp only [e0, e1, e2, if_true, if_false]
        rw [if_neg (by decide)]
        unfold nmR prv nmF
        by_cases e3 : j = 32
        · subst e3
          simp
        · have h1 : ¬ j - 32 = 0 := by omega
          have hp := hq (j - 1) (by omega)
          have hP := lineQ_nam s k (j - 1 - 32) (by omega)
          rw [show 32 + (j - 1 - 32) = j - 1 by omega, show k + 32 + (j - 1 - 32) = k + j - 1 by omega, hp] at hP
          have h0 := nmF_not0 hP.symm
          rw [if_neg h1, show k + 32 + (j - 32 - 1) = k + j - 1 by omega, decide_eq_false (show ¬ k + j = k + 32 by omega), decide_eq_true (show k + 32 < k + j by omega), decide_eq_false h0]
          simp
      · simp [e0, e1, e2, lineQ]
theorem stops_of {F Q : Nat → Bool} {n : Nat} (h : ∀ j, j < n → (∀ q, q < j → Q q = true) → F j = Q j) : ∀ {o : Nat}, o ≤ n → (∀ j, j < o → F j = true) → ∀ j, j < o → Q j = true
  | 0, _, _, j, hj => by omega
  | o + 1, ho, hF, j, hj => by
    have ih := stops_of h (o := o) (by omega) (fun j hj => hF j (by omega))
    by_cases e : j < o
    · exact ih j e
    · obtain rfl : j = o := by omega
      rw [← h j (by omega) ih]
      exact hF j hj
theorem stops_to {F Q : Nat → Bool} {n o : Nat} (h : ∀ j, j < n → (∀ q, q < j → Q q = true) → F j = Q j) (hs : Stops F n o) : Stops Q n o := by
  have h1 := stops_of h (Nat.le_of_lt hs.1) hs.2.1
  exact ⟨hs.1, h1, by rw [← h o hs.1 h1]; exact hs.2.2⟩
theorem lineP_ref (s : ByteArray) (k : Nat) (w : World) (hk : k ≤ 90000) (K M : Int) (hK : K = (k : Int)) (hM : M = (k : Int) + 45) :
    Calls Tryd.prog 46 #[.string s, .int .i64 K, .string fmP] w fun e w' => w' = w ∧ (((∀ j, j < 45 → lineQ s k j = true) ∧ e = .returned (.tuple #[.int .i64 M, .bool true])) ∨ ∃ o, Stops (lineQ s k) 45 o ∧ e = .returned (.tuple #[.int .i64 ((k : Int) + (o : Int)), .bool false])) := by
  subst hK hM
  refine (line_ref s fmP k 32 44 w (by omega) (by decide) ?_ (by decide) (by decide)).mono ?_
  · intro i hi
    have hi2 : i < 45 := hi
    rw [fmP_bt i hi]
    repeat' split
    all_goals omega
  · rintro e w' ⟨h1, ⟨h2, h3⟩ | ⟨o, h2, h3⟩⟩
    · exact ⟨h1, .inl ⟨stops_of (fun j hj hq => form_line s k hj hq) (Nat.le_refl _) h2, h3⟩⟩
    · exact ⟨h1, .inr ⟨o, stops_to (fun j hj hq => form_line s k hj hq) h2, h3⟩⟩
theorem lineE_ref (s : ByteArray) (k : Nat) (w : World) (hk : k ≤ 90000) (K M : Int) (hK : K = (k : Int)) (hM : M = (k : Int) + 12) :
    Calls Tryd.prog 46 #[.string s, .int .i64 K, .string fmE] w fun e w' => w' = w ∧ (((∀ j, j < 12 → tailQ s k j = true) ∧ e = .returned (.tuple #[.int .i64 M, .bool true])) ∨ ∃ o, Stops (tailQ s k) 12 o ∧ e = .returned (.tuple #[.int .i64 ((k : Int) + (o : Int)), .bool false])) := by
  subst hK hM
  refine (line_ref s fmE k 100 101 w (by omega) (by decide) ?_ (by decide) (by decide)).mono ?_
  · intro i hi
    have hi2 : i < 12 := hi
    rw [fmE_bt i hi]
    repeat' split
    all_goals omega
  · rintro e w' ⟨h1, ⟨h2, h3⟩ | ⟨o, h2, h3⟩⟩
    · exact ⟨h1, .inl ⟨stops_of (fun j hj _ => form_tail s k hj) (Nat.le_refl _) h2, h3⟩⟩
    · exact ⟨h1, .inr ⟨o, stops_to (fun j hj _ => form_tail s k hj) h2, h3⟩⟩
theorem lineH_ref (s : ByteArray) (w : World) :
    Calls Tryd.prog 46 #[.string s, .int .i64 0, .string fmH] w fun e w' => w' = w ∧ (((∀ j, j < 25 → headQ s j = true) ∧ e = .returned (.tuple #[.int .i64 25, .bool true])) ∨ ∃ o : Nat, Stops (headQ s) 25 o ∧ e = .returned (.tuple #[.int .i64 (o : Int), .bool false])) := by
  refine (line_ref s fmH 0 100 101 w (by omega) (by decide) ?_ (by decide) (by decide)).mono ?_
  · intro i hi
    have hi2 : i < 25 := hi
    rw [fmH_bt i hi]
    repeat' split
    all_goals omega
  · rintro e w' ⟨h1, ⟨h2, h3⟩ | ⟨o, h2, h3⟩⟩
    · exact ⟨h1, .inl ⟨stops_of (fun j hj _ => form_head s hj) (Nat.le_refl _) h2, h3⟩⟩
    · exact ⟨h1, .inr ⟨o, stops_to (fun j hj _ => form_head s hj) h2, by rw [h3]; simp⟩⟩
end Go.Proofs.YtdfgkngfpedgdaaDoor
