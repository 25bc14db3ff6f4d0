/- FnExactAftersOk, FnExactNewAfters, FnExactRegistered, FnExactCalledOff, FnExactQueuedBy and FnExactStarted hold as given: for every argument the law returns true, and the arguments read afterwards as before; no condition. -/
import Derived.Test.YtnnbfcmbcjkpoaaEd
import Derived.Test.YtnnbfcmbcjkpoaaEb
namespace Go.Proofs.Ytnnbfcmbcjkpoaa

theorem asOk_said : Rows.FnExactAftersOkSaid := asOk_holds implAs
theorem newAs_said : Rows.FnExactNewAftersSaid := newAs_holds implNewAs
theorem reg_said : Rows.FnExactRegisteredSaid := reg_holds implReg
theorem off_said : Rows.FnExactCalledOffSaid := off_holds implOff
theorem queue_said : Rows.FnExactQueuedBySaid := queue_holds implQueue
theorem start_said : Rows.FnExactStartedSaid := start_holds implStart
end Go.Proofs.Ytnnbfcmbcjkpoaa
