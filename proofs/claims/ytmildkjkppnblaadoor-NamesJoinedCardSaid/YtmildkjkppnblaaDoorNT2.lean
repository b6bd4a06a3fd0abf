/- The two tables of the library lie as they were laid: out of what the rows list. -/
import Derived.Test.YtmildkjkppnblaaDoorRows
import Derived.Test.YtmildkjkppnblaaDoorNV
import Derived.Test.YtmildkjkppnblaaDoorM0
import Derived.Lib.LaidU8
import Derived.PinnedBridge
set_option linter.unusedVariables false
namespace Go.Proofs.YtmildkjkppnblaaDoor
open Go.RowKit

theorem xU8 : U8Extra Tryd.prog Tryd.lays260_ren := ⟨by kernel_rfl, by kernel_rfl, by kernel_rfl, by kernel_rfl, by kernel_rfl, by kernel_rfl, by kernel_rfl⟩
theorem accept_eq : (Rows.laid_unicode_utf8_acceptRanges : DataW Unit) = Lib.acceptData := by kernel_rfl
theorem first_eq : Rows.laid_unicode_utf8_first = Lib.firstData := Pinned.utf8First_eq
theorem tabs_of {W : World} (h : laidMet Tryd.prog Rows.namesQuotesRow.laid W) : Tabs W :=
  utf8Tabs_of_reads Tryd.lays260 xU8 (first_eq ▸ Lib.laidMet.reads h (List.mem_cons_of_mem _ List.mem_cons_self)) (accept_eq ▸ Lib.laidMet.reads h List.mem_cons_self)
end Go.Proofs.YtmildkjkppnblaaDoor
