/-
  A short name for what hides a fact from the walkers.
-/
import Derived.Test.YtmlpedgcpffpnaaGreatDoorProg
import Derived.Lib.Hide
set_option linter.unusedSimpArgs false
set_option maxRecDepth 100000
set_option maxHeartbeats 8000000
namespace Go.Proofs.YtmlpedgcpffpnaaGreatDoor
open Go.RowKit
theorem Hd {p : Prop} (h : p) : Hid p := Lib.hid h
theorem dEf {p : Prop} [inst : Decidable p] (h : ¬ p) : decide p = false := decide_eq_false h
end Go.Proofs.YtmlpedgcpffpnaaGreatDoor
