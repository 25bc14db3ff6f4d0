/- FnExactDueOf holds as given: for every argument the law returns true, and the arguments read afterwards as before; no condition. -/
import Derived.Test.YtakhegamlammcaaNm
import Derived.Test.YtakhegamlammcaaNy
namespace Go.Proofs.Ytakhegamlammcaa
open Go.RowKit

theorem due_said : Rows.FnExactDueOfSaid := due_holds implDue
end Go.Proofs.Ytakhegamlammcaa
