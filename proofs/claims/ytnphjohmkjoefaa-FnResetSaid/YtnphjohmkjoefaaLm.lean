/- The exact laws of TimersOk, NextDue, Armed, Stopped, Reset and Forgotten: each returns true and keeps old memory. No condition beyond that the timers can be read. -/
import Derived.Test.YtnphjohmkjoefaaQm
namespace Go.Proofs.Ytnphjohmkjoefaa
open Go.RowKit Go.Sort

theorem OwnM.rd {w : World} {lo hi : Nat} {v : Value} {t : Tms} (h : OwnM w lo hi v t) : RdM w hi v t := by
  obtain ⟨p1, p2, p3, p4, p5⟩ := h; exact ⟨p1, p2, p3, p4.rd, p5.rd⟩
theorem ok_len {T : Tms} (h : timersOkB T = true) : T.heap.length ≤ 64 ∧ T.list.length ≤ 64 := ⟨(heapOk_iff.1 (timersOk_iff.1 h).heap).1, (timersOk_iff.1 h).len⟩
theorem stopL_len (T : Tms) (q : Int) : (stopL T q).heap.length ≤ 1048576 ∧ (stopL T q).list.length ≤ 1048576 := by
  unfold stopL
  split
  · rename_i h
    have := ok_len h
    have := withoutL_len T.heap q
    unfold stoppedT
    split
    · omega
    · simp only [List.length_modify]; omega
  · simp [zeroT]
theorem forgetL_len (T : Tms) (q : Int) : (forgetL T q).heap.length ≤ 1048576 ∧ (forgetL T q).list.length ≤ 1048576 := by
  unfold forgetL
  split
  · rename_i h
    have := ok_len h
    have := withoutL_len T.heap q
    unfold forgetT
    split
    · omega
    · simp only [List.length_append, List.length_take, List.length_drop]; omega
  · simp [zeroT]
theorem resetL_len (T : Tms) (q d : Int) : (resetL T q d).heap.length ≤ 1048576 ∧ (resetL T q d).list.length ≤ 1048576 := by
  unfold resetL
  split
  · rename_i h
    have := ok_len h
    have := mergedL_len (withoutL T.heap q) [⟨d, q, 0⟩]
    unfold resetT
    split
    · omega
    · simp only [putL, List.length_modify]; omega
  · simp [zeroT]
theorem armL_len (T : Tms) (p q r : Int) : (armL T p q r).heap.length ≤ 1048576 ∧ (armL T p q r).list.length ≤ 1048576 := by
  unfold armL
  split
  · rename_i h
    have := ok_len h
    have := mergedL_len T.heap [⟨p, T.next, 0⟩]
    split
    · simp only [putL, List.length_append, List.length_cons, List.length_nil]; omega
    · omega
  · simp [zeroT]

end Go.Proofs.Ytnphjohmkjoefaa
