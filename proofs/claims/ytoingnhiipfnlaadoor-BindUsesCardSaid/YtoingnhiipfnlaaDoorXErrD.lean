/-
  Promise F2: the walk of the reference's WrongExpr, over whatever expression (written by xerrgen.py, kind by kind).
-/
import Derived.Test.YtoingnhiipfnlaaDoorXErr
namespace Go.Proofs.YtoingnhiipfnlaaDoor
open Go.RowKit

/-- How many Kids each kind has, as the reference lays it. -/
def kidsRow : Obj := .cells #[.int .i64 0, .int .i64 0, .int .i64 0, .int .i64 0, .int .i64 1, .int .i64 1, .int .i64 1, .int .i64 2, .int .i64 2, .int .i64 1, .int .i64 1, .int .i64 2, .int .i64 2, .int .i64 4] 3
/-- What the walk of an expression of one kind says, if it is so of its Kids. -/
def WrongIs (x : Ex) : Prop := ∀ (a : Option Addr) (c : Nat) (w : World), KidsAt w x a →
    Calls Tryd.prog 40 #[.agg #[.int .i64 x.k, .int .i64 x.n, .string x.s, .slice a x.m c]] w fun e w' => e = .returned (.int .i64 x.err) ∧ Below w.heap.size w w'
end Go.Proofs.YtoingnhiipfnlaaDoor
