/- The table of the days before each month lies as it was laid: out of what the rows list. -/
import Derived.Test.YtoodfiicoplbhaaDoorCB
import Derived.Lib.LaidTab
set_option linter.unusedVariables false
namespace Go.Proofs.YtoodfiicoplbhaaDoor
open Go.RowKit

theorem g_name : Tryd.prog.globalNamed "homehub/clock.daysBefore" = some 0 := by kernel_rfl
theorem g_type : (Tryd.prog.globals[0]?).map (·.type) = some 50 := by kernel_rfl
theorem tabs_of {W : World} (h : laidMet Tryd.prog Rows.clockDatesRow.laid W) : Tab W := fun i hi => by
  have hT : Lib.TabIs Tryd.prog W "homehub/clock.daysBefore" .i64 [0, 31, 59, 90, 120, 151, 181, 212, 243, 273, 304, 334, 365] :=
    Lib.tabIs_of_head g_name g_type Tryd.underlying50 Tryd.underlying3 (by kernel_rfl) (by kernel_rfl) h
  rw [hT.cell g_name i (by simpa using hi)]
  match i, hi with
  | 0, _ => rfl
  | 1, _ => rfl
  | 2, _ => rfl
  | 3, _ => rfl
  | 4, _ => rfl
  | 5, _ => rfl
  | 6, _ => rfl
  | 7, _ => rfl
  | 8, _ => rfl
  | 9, _ => rfl
  | 10, _ => rfl
  | 11, _ => rfl
  | 12, _ => rfl
  | n + 13, h => omega
end Go.Proofs.YtoodfiicoplbhaaDoor
