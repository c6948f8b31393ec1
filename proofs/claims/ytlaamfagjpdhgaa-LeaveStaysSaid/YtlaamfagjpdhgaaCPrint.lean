/-
  Promise B2 (printing): the walk of calendar.Print: at every int it returns the printed day, or the error.
-/
import Derived.Test.YtlaamfagjpdhgaaCDay
import Derived.Test.YtlaamfagjpdhgaaCText
import Derived.Deep.RegionHeld3
import Derived.Laws.Concat
namespace Go.Proofs.Ytlaamfagjpdhgaa
open Go.RowKit

theorem from_drew {W w2 : World} (h : Below W.drew.heap.size W.drew w2) : Below W.heap.size W w2 := (Below.refl W.heap.size W).drew.trans h
end Go.Proofs.Ytlaamfagjpdhgaa
