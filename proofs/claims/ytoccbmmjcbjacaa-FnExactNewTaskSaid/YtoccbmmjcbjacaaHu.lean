/- FnExactTaskOk, FnExactNewTask, FnExactParked, FnExactReadied and FnExactEnded hold as given: for every argument the law returns true, and the arguments read afterwards as before; no condition. -/
import Derived.Test.YtoccbmmjcbjacaaHf
import Derived.Test.YtoccbmmjcbjacaaHt
namespace Go.Proofs.Ytoccbmmjcbjacaa

theorem taskOk_said : Rows.FnExactTaskOkSaid := taskOk_holds implTaskOk
theorem newTask_said : Rows.FnExactNewTaskSaid := newTask_holds implNewTask
theorem parked_said : Rows.FnExactParkedSaid := parked_holds implParked
theorem readied_said : Rows.FnExactReadiedSaid := readied_holds implReadied
theorem ended_said : Rows.FnExactEndedSaid := ended_holds implEnded
end Go.Proofs.Ytoccbmmjcbjacaa
