/- FnExactTasksOk, FnExactParkedOn, FnExactWoken and FnExactReadyIn hold as given: for every argument the law returns true, and the arguments read afterwards as before; no condition. -/
import Derived.Test.YtfpnpjpcjbndoaaIf
import Derived.Test.YtfpnpjpcjbndoaaIq
namespace Go.Proofs.Ytfpnpjpcjbndoaa

theorem tasksOk_said : Rows.FnExactTasksOkSaid := tasksOk_holds implTasksOk
theorem parkedOn_said : Rows.FnExactParkedOnSaid := parkedOn_holds implParkedOn
theorem woken_said : Rows.FnExactWokenSaid := woken_holds implWoken
theorem readyIn_said : Rows.FnExactReadyInSaid := readyIn_holds implReadyIn
end Go.Proofs.Ytfpnpjpcjbndoaa
