/- The exact laws of chapter 3 hold as given for the program: for every input the law returns true and the arguments read afterwards as before. No condition. -/
import Derived.Test.YtggggdloppnopaaPl
import Derived.Test.YtggggdloppnopaaLg
namespace Go.Proofs.Ytggggdloppnopaa

theorem exactHeapOk_holds : Rows.FnExactHeapOkSaid := heapOk_holds implHeapOk
theorem exactRankOf_holds : Rows.FnExactRankOfSaid := rankOf_holds implRankOf
theorem exactMerged_holds : Rows.FnExactMergedSaid := merged_holds implMerged
theorem exactPut_holds : Rows.FnExactPutSaid := put_holds implPut
theorem exactShifted_holds : Rows.FnExactShiftedSaid := shifted_holds implShifted
theorem exactWithout_holds : Rows.FnExactWithoutSaid := without_holds implWithout
theorem exactSorted_holds : Rows.FnExactSortedSaid := sorted_holds implSorted
end Go.Proofs.Ytggggdloppnopaa
