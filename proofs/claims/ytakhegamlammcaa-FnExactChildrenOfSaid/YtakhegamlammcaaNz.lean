/- FnExactTreeOk and FnExactChildrenOf hold as given: for every argument the law returns true, and the arguments read afterwards as before; no condition. -/
import Derived.Test.YtakhegamlammcaaNm
import Derived.Test.YtakhegamlammcaaNq
namespace Go.Proofs.Ytakhegamlammcaa
open Go.RowKit

theorem treeOk_said : Rows.FnExactTreeOkSaid := treeOk_holds implTreeOk
theorem kids_said : Rows.FnExactChildrenOfSaid := kids_holds implKids
end Go.Proofs.Ytakhegamlammcaa
