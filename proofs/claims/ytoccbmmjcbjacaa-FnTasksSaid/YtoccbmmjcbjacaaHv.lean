/- FnTasks holds as given: for every drawn code the law returns true, and the argument reads afterwards as before; no condition. -/
import Derived.Test.YtoccbmmjcbjacaaHm
import Derived.Test.YtoccbmmjcbjacaaHt
namespace Go.Proofs.Ytoccbmmjcbjacaa

theorem tasks_said : Rows.FnTasksSaid := tasks_holds implTaskOk implParked implReadied implEnded
end Go.Proofs.Ytoccbmmjcbjacaa
