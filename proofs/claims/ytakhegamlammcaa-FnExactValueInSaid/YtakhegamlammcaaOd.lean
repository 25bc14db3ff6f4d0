/- FnExactValueIn holds as given: for every argument the law returns true, and the arguments read afterwards as before; no condition. -/
import Derived.Test.YtakhegamlammcaaNm
import Derived.Test.YtakhegamlammcaaOa
namespace Go.Proofs.Ytakhegamlammcaa
open Go.RowKit

theorem val_said : Rows.FnExactValueInSaid := val_holds implVal
end Go.Proofs.Ytakhegamlammcaa
