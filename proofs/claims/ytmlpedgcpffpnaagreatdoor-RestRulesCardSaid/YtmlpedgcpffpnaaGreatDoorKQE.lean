/-
  A row of ints of the call's own that is appended to, one int at a time: what becomes of it, and that two such rows stay apart. No condition beyond those of each theorem.
-/
import Derived.Test.YtmlpedgcpffpnaaGreatDoorKQ1
import Derived.ArgAppend
import Derived.Test.YtmlpedgcpffpnaaGreatDoorKQ9
import Derived.Test.YtmlpedgcpffpnaaGreatDoorKQ4
import Derived.Test.YtmlpedgcpffpnaaGreatDoorKQ3
set_option linter.unusedSimpArgs false
set_option maxRecDepth 100000
set_option maxHeartbeats 8000000
namespace Go.Proofs.YtmlpedgcpffpnaaGreatDoor
open Go.RowKit
open Go.Maps Go.WideMaps
theorem MeantIs.below {w w' : World} {b1 b2 b3 b4 : Nat} {l : List Ln} {k : Kn} (h : MeantIs w b1 b2 b3 b4 l k) (hb : Below w.heap.size w w') : MeantIs w' b1 b2 b3 b4 l k := ⟨h.1.below hb, h.2.1.below hb, h.2.2.1.below hb, h.2.2.2.below hb⟩
theorem vlast_lt {f : Nat -> ByteArray} : ∀ {n : Nat} {s : ByteArray} {p : Nat}, lastN f n s = some p -> p < n
 | 0, _, _, h => by cases h
 | n + 1, s, p, h => by
   simp only [lastN] at h
   split at h
   ·injection h with h; omega
   ·have := vlast_lt h; omega
def lnsG (l : List Ln) : ByteArray -> Option Nat := lastN (fun j => (lnth l j).name) l.length
def insG (k : Kn) : ByteArray -> Option Nat := lastN (fun j => (anth k.ins j).name) k.ins.length
def tbsG (k : Kn) : ByteArray -> Option Nat := lastN (fun j => (tnth k.tbs j).name) k.tbs.length
def yrsG (k : Kn) : ByteArray -> Option Nat := lastN (fun j => (anth k.yrs j).name) k.yrs.length
theorem lit_int {a b : Int} (h : (DataW.lit (.int .i64 a) : DataW Unit) = .lit (.int .i64 b)) : a = b := by injection h with h; injection h



end Go.Proofs.YtmlpedgcpffpnaaGreatDoor
