/-
  Promise S1: the walk of a store's reading of a sector, through the disk's interface.
-/
import Derived.Test.YtdnngcibmkdhhaaStOne
namespace Go.Proofs.Ytdnngcibmkdhhaa
open Go.RowKit

/-- Where a store lies: its disk, and whether the power went. -/
def StAt (w : World) (q b : Nat) (o : Bool) : Prop := w.cell? ⟨q, 0, none⟩ = some (.iface 24 (.pointer (some ⟨b, 0, none⟩))) ∧ w.cell? ⟨q, 1, none⟩ = some (.bool o) ∧ w.frozen? ⟨q, 1, none⟩ = false
/-- What a store's reading answers. -/
def srE (D : Dk) (i : Int) : Int := if rdE D i = 0 then (if (rdT D i).size = 64 then 0 else 1) else rdE D i
def srT (D : Dk) (i : Int) : ByteArray := if srE D i = 0 then rdT D i else ⟨#[]⟩
set_option maxRecDepth 100000 in
set_option maxHeartbeats 2000000 in
theorem storeRead_any (q b : Nat) (x : Option Addr) (c : Nat) (D : Dk) (o : Bool) (i : Int) (w : World) (h : DkAt w b x c D) (hs : StAt w q b o) (hm : D.secs.length ≤ 9223372036854775807) :
    Calls Try.prog 22 #[.pointer (some ⟨q, 0, none⟩), .int .i64 i] w fun e w' => e = .returned (.tuple #[.string (srT D i), .int .i64 (srE D i)]) ∧ w' = w := by
  have HR := Lib.hid (diskRead_any b x c D i w h hm)
  have HE : Hid (srE D i = if rdE D i = 0 then (if (rdT D i).size = 64 then 0 else 1) else rdE D i) := rfl
  have HT : Hid (srT D i = if srE D i = 0 then rdT D i else ⟨#[]⟩) := rfl
  obtain ⟨s0, _, _⟩ := hs
  clear h
  generalize rdT D i = t at *
  generalize rdE D i = r at *
  go_enter Try.func22, Try.ntmps22
  go_wp2_with fail
  refine HR.out.mono ?_
  rintro e w' ⟨rfl, h'⟩
  subst w'
  by_cases hr : r = 0
  · rw [if_pos hr] at HE
    subst hr
    by_cases hz : t.size = 64
    · rw [if_pos hz] at HE
      rw [HE.out, if_pos rfl] at HT
      have hz1 : ((t.size : Int) != 64) = false := by simp [hz]
      have hz2 : decide ((t.size : Int) = 64) = true := decide_eq_true (by omega)
      clear hz
      go_wp2_with fail
      go_ret2
      exact ⟨st_ret2 (by rw [HT.out]; rfl) HE.out.symm, rfl⟩
    · rw [if_neg hz] at HE
      rw [HE.out, if_neg (by decide)] at HT
      have hz0 : ¬ (t.size : Int) = 64 := by omega
      have hz1 : ((t.size : Int) != 64) = true := by simpa using hz0
      have hz2 : decide ((t.size : Int) = 64) = false := decide_eq_false hz0
      clear hz hz0
      go_wp2_with fail
      go_ret2
      exact ⟨st_ret2 (by rw [HT.out]; rfl) HE.out.symm, rfl⟩
  · rw [if_neg hr] at HE
    rw [if_neg (by rw [HE.out]; exact hr)] at HT
    have hr1 : (r != 0) = true := by simpa using hr
    have hr2 : decide (r = 0) = false := decide_eq_false hr
    go_wp2_with fail
    go_ret2
    exact ⟨st_ret2 (by rw [HT.out]; rfl) HE.out.symm, rfl⟩
end Go.Proofs.Ytdnngcibmkdhhaa
