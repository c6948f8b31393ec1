/-
  Promise B1: walks of the reference's calendar: MonthDays, Civil, DayOf, IsDate, WeekdayOf; of the law's dayIs and numberIs.
-/
import Derived.Test.YtckealcgbjgfhaaDoorCWork
namespace Go.Proofs.YtckealcgbjgfhaaDoor
open Go.RowKit Go.Maps


theorem yd_cases (y : Int) : (lp y = true ∧ yd y = 366) ∨ (lp y = false ∧ yd y = 365) := by
  unfold yd
  cases lp y <;> simp
end Go.Proofs.YtckealcgbjgfhaaDoor
