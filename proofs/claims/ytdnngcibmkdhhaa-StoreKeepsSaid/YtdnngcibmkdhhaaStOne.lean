/-
  Promise S1: what a disk tells of itself; where a half begins, how many sectors a text takes.
-/
import Derived.Test.YtdnngcibmkdhhaaStWr
namespace Go.Proofs.Ytdnngcibmkdhhaa
open Go.RowKit

set_option maxRecDepth 100000 in
theorem diskSectors_any (b : Nat) (x : Option Addr) (c : Nat) (D : Dk) (w : World) (h : DkAt w b x c D) :
    Calls Try.prog 7 #[.pointer (some ⟨b, 0, none⟩)] w fun e w' => e = .returned (.int .i64 (D.secs.length : Int)) ∧ w' = w := by
  obtain ⟨⟨c0, _⟩, _, ⟨c2, _⟩, c3, _⟩ := h.1.four
  clear h
  go_enter Try.func7, Try.ntmps7
  go_wp2_with fail
  go_ret
  exact ⟨rfl, rfl⟩
set_option maxRecDepth 100000 in
theorem diskOff_any (b : Nat) (x : Option Addr) (c : Nat) (D : Dk) (w : World) (h : DkAt w b x c D) :
    Calls Try.prog 9 #[.pointer (some ⟨b, 0, none⟩)] w fun e w' => e = .returned (.bool D.off) ∧ w' = w := by
  obtain ⟨⟨c0, _⟩, _, ⟨c2, _⟩, c3, _⟩ := h.1.four
  clear h
  go_enter Try.func9, Try.ntmps9
  go_wp2_with fail
  go_ret
  exact ⟨rfl, rfl⟩
set_option maxRecDepth 100000 in
theorem diskWrites_any (b : Nat) (x : Option Addr) (c : Nat) (D : Dk) (w : World) (h : DkAt w b x c D) :
    Calls Try.prog 12 #[.pointer (some ⟨b, 0, none⟩)] w fun e w' => e = .returned (.int .i64 D.wrt) ∧ w' = w := by
  obtain ⟨⟨c0, _⟩, _, ⟨c2, _⟩, c3, _⟩ := h.1.four
  clear h
  go_enter Try.func12, Try.ntmps12
  go_wp2_with fail
  go_ret
  exact ⟨rfl, rfl⟩
set_option maxRecDepth 100000 in
theorem first_any (k : Int) (w : World) (hk : 0 ≤ k ∧ k ≤ 1) :
    Calls Try.prog 25 #[.int .i64 k] w fun e w' => e = .returned (.int .i64 (1 + k * 32)) ∧ w' = w := by
  have h1 : IntKind.i64.wrap (k * 32) = k * 32 := IntWalk.i64_in _ (by omega)
  have h2 : IntKind.i64.wrap (1 + k * 32) = 1 + k * 32 := IntWalk.i64_in _ (by omega)
  go_enter Try.func25, Try.ntmps25
  go_wp2_with fail
  go_ret
  exact ⟨rfl, rfl⟩
set_option maxRecDepth 100000 in
theorem sectors_any (n : Nat) (w : World) (hn : n ≤ 100000) :
    Calls Try.prog 24 #[.int .i64 n] w fun e w' => e = .returned (.int .i64 (((n + 63) / 64 : Nat) : Int)) ∧ w' = w := by
  have h1 : IntKind.i64.wrap ((n : Int) + 64) = (n : Int) + 64 := IntWalk.i64_in _ (by omega)
  have h2 : IntKind.i64.wrap ((n : Int) + 64 - 1) = (n : Int) + 64 - 1 := IntWalk.i64_in _ (by omega)
  have h3 : IntKind.i64.wrap (((n : Int) + 64 - 1).tdiv 64) = (((n + 63) / 64 : Nat) : Int) := by
    have e : ((n : Int) + 64 - 1).tdiv 64 = (((n + 63) / 64 : Nat) : Int) := by
      rw [show (n : Int) + 64 - 1 = ((n + 63 : Nat) : Int) by omega, Int.tdiv_eq_ediv_of_nonneg (by omega)]
      omega
    rw [e]
    exact IntWalk.i64_in _ (by omega)
  go_enter Try.func24, Try.ntmps24
  go_wp2_with fail
  go_ret
  exact ⟨rfl, rfl⟩
end Go.Proofs.Ytdnngcibmkdhhaa
