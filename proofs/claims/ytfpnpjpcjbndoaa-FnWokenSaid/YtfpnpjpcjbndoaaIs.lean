/- FnWoken holds as given: for every drawn code the law returns true, and the argument reads afterwards as before; no condition. -/
import Derived.Test.YtfpnpjpcjbndoaaIk
import Derived.Test.YtfpnpjpcjbndoaaIq
namespace Go.Proofs.Ytfpnpjpcjbndoaa

theorem wokenAll_said : Rows.FnWokenSaid := wokenAll_holds implTasksOk implParkedOn implReadyIn implWoken
end Go.Proofs.Ytfpnpjpcjbndoaa
