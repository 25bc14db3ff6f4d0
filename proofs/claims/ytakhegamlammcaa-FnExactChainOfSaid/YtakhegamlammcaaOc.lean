/- FnExactChainOf holds as given: for every argument the law returns true, and the arguments read afterwards as before; no condition. -/
import Derived.Test.YtakhegamlammcaaNm
import Derived.Test.YtakhegamlammcaaOb
namespace Go.Proofs.Ytakhegamlammcaa
open Go.RowKit

theorem chain_said : Rows.FnExactChainOfSaid := chain_holds implChain
end Go.Proofs.Ytakhegamlammcaa
