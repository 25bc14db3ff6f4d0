/- FnExactSpreadOk, FnExactBegun, FnExactSpreadStep and FnExactSpreadAll hold as given: for every argument the law returns true, and the arguments read afterwards as before; no condition. -/
import Derived.Test.YtlfbmjfbebbdlaaWv
import Derived.Test.YtlfbmjfbebbdlaaWt
namespace Go.Proofs.Ytlfbmjfbebbdlaa

theorem sprOk_said : Rows.FnExactSpreadOkSaid := sprOk_holds implSpreadOk
theorem begun_said : Rows.FnExactBegunSaid := begun_holds implBegun
theorem sstep_said : Rows.FnExactSpreadStepSaid := sstep_holds implStep
theorem sall_said : Rows.FnExactSpreadAllSaid := sall_holds implAll
end Go.Proofs.Ytlfbmjfbebbdlaa
