/- From a law of one code of bytes to the given row, where the dice of earlier chapters cannot be had (as Lb); no condition. -/
import Derived.Test.YtfpnpjpcjbndoaaLf

namespace Go.Proofs.Ytfpnpjpcjbndoaa
open Go.ChangeShapes Go.WideShapes Go.ChangeAt Go.RowKit Go.Joins Go.Deep

theorem Try.cellsU8 : Try.prog.cellsOf 5 = 1 := by kernel_rfl
theorem Try.underU8 : Try.prog.underlying 5 = some (.int .u8) := by kernel_rfl
section
variable {H : Type} {enc : TypeId × Value → H} {P : Program}
/-- A slice of numbers of whatever kind among the arguments. -/
theorem open_rdK {w : World} {held : Bool} {t e : TypeId} {k : IntKind} {fuel : Nat} {v : Value} {x : DataW H × List MemPlace} (ht : P.underlying t = some (.slice e)) (he : P.underlying e = some (.int k)) (hc : P.cellsOf e = 1)
    (h : DataW.trod enc P w 0 (fun _ => true) held fuel t [v] = some x) : ∃ (A : Option Addr) (c : Nat) (xs : List Int), v = .slice A xs.length c ∧ Rd (Value.int k) w w.heap.size A xs ∧ ∀ n ∈ xs, (Lit.int k n).wf = true := by
  rcases open_ints ht he hc h with ⟨hv, _⟩ | ⟨a, len, cap, zs, hv, _, hl, hm, hz, _, hcell, hwf⟩
  · simp at hv
    exact ⟨none, 0, [], by simpa using hv, ⟨by simp, by simp⟩, by simp⟩
  · simp at hv hz
    have hlen : (zs.take len).length = len := by simp; omega
    refine ⟨some a, cap, zs.take len, by rw [hlen]; exact hv, ⟨by omega, fun hn => ⟨a, rfl, ?_, fun j y hy => ?_⟩⟩, fun n hn => hwf n (List.mem_of_mem_take hn)⟩
    · have := World.block_lt_of_cell? w _ (hcell 0 (by omega))
      simpa [Addr.add] using this
    · have hj : j < len := by
        rcases Nat.lt_or_ge j len with h' | h'
        · exact h'
        · rw [List.getElem?_eq_none (by omega)] at hy; cases hy
      rw [List.getElem?_take_of_lt hj] at hy
      rw [hcell j (by omega), List.getD_eq_getElem?_getD, hy]
      rfl
end
end Go.Proofs.Ytfpnpjpcjbndoaa
