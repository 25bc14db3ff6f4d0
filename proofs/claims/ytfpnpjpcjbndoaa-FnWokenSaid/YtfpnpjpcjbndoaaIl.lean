/- Maps keyed by arrays of two int64: equality of keys, the check of a key, and finding a key among entries; no condition beyond that the entries' keys are such arrays. -/
import Derived.Test.YtfpnpjpcjbndoaaGr
import Derived.Maps.OwnOps
import Derived.MapKept
import Derived.WideKeyRuns
import Derived.Maps.OwnSet
namespace Go.Proofs.Ytfpnpjpcjbndoaa
open Go.RowKit Go.Sort

/-- A reason as a key. -/
def rkey (h : Int × Int) : Value := .agg #[.int .i64 h.1, .int .i64 h.2]
theorem rkey_inj {a b : Int × Int} (h : rkey a = rkey b) : a = b := by
  unfold rkey at h
  injection h with h
  injection h with h
  injection h with h1 h
  injection h with h2 _
  injection h1 with _ h1
  injection h2 with _ h2
  exact Prod.ext h1 h2
set_option maxRecDepth 100000 in
theorem rkey_eq (w : World) (a b : Int × Int) : (Op.equal 57 (rkey a) (rkey b)).run Try.prog w = .ok (decide (a = b)) w := by
  obtain ⟨a1, a2⟩ := a
  obtain ⟨b1, b2⟩ := b
  unfold rkey Op.equal Op.maxDepth
  obtain ⟨i, hi⟩ := info_of_underlying Try.underlying2
  have e := run_equalIn_array (P := Try.prog) w 9999 #[.int .i64 a1, .int .i64 a2] #[.int .i64 b1, .int .i64 b2] Try.underlying57 hi
  rw [e]
  have hc : Try.prog.cellsOf 2 = 1 := by kernel_rfl
  have p0 : ∀ (u v : Int) (w : World), (Go.part 2 #[.int .i64 u, .int .i64 v] 0).run Try.prog w = .ok (.int .i64 u) w := fun u v w => run_part_plain w (e := 2) (by kernel_rfl) rfl
  have p1 : ∀ (u v : Int) (w : World), (Go.part 2 #[.int .i64 u, .int .i64 v] 1).run Try.prog w = .ok (.int .i64 v) w := fun u v w => run_part_plain w (e := 2) (by kernel_rfl) rfl
  have q : ∀ (u v : Int) (w : World), (Op.equalIn 9999 2 (.int .i64 u) (.int .i64 v)).run Try.prog w = .ok (u == v) w := fun u v w => run_equalIn_int w 9998 2 .i64 .i64 u v Try.underlying2
  rw [hc, show List.range 2 = [0, 1] from rfl]
  by_cases h1 : a1 = b1
  · by_cases h2 : a2 = b2
    · simp [Op.eqItems, p0, p1, q, h1, h2, Result.andThen]
    · simp [Op.eqItems, p0, p1, q, h1, h2, Result.andThen]
  · simp [Op.eqItems, p0, q, h1, Result.andThen]
set_option maxRecDepth 100000 in
theorem rkey_check (w : World) (e : Bool) (a : Int × Int) : (Instr.checkKey e 10000 57 (rkey a)).run Try.prog w = .ok () w := by
  obtain ⟨a1, a2⟩ := a
  unfold rkey
  obtain ⟨i, hi⟩ := info_of_underlying Try.underlying2
  have hc : Try.prog.cellsOf 2 = 1 := by kernel_rfl
  have p0 : ∀ (u v : Int) (w : World), (Go.part 2 #[.int .i64 u, .int .i64 v] 0).run Try.prog w = .ok (.int .i64 u) w := fun u v w => run_part_plain w (e := 2) (by kernel_rfl) rfl
  have p1 : ∀ (u v : Int) (w : World), (Go.part 2 #[.int .i64 u, .int .i64 v] 1).run Try.prog w = .ok (.int .i64 v) w := fun u v w => run_part_plain w (e := 2) (by kernel_rfl) rfl
  have q : ∀ (u : Int) (w : World), (Instr.checkKey e 9999 2 (.int .i64 u)).run Try.prog w = .ok () w := fun u w => MapKept.run_checkKey Try.underlying2 (d := .int .i64) (k := .int .i64 u) rfl e 9998
  rw [show (10000 : Nat) = 9999 + 1 from rfl]
  unfold Instr.checkKey
  simp only [Sem.run_bind, run_underlying Try.underlying57, Result.andThen]
  simp only [Std.Legacy.Range.forIn_eq_forIn_range', Std.Legacy.Range.size, Nat.sub_zero, Nat.add_one_sub_one, Nat.div_one]
  simp [List.range', run_sizeOf w hi, hc, p0, p1, q, Result.andThen]
/-- What a look-up finds among these entries. -/
theorem rkey_find (w : World) (a : Int × Int) : ∀ (es : List MapEntry) (i : Nat), (∀ e ∈ es, ∃ h, e.key = rkey h) →
    ((Instr.findAsking 57 (rkey a) es i).run Try.prog w = .ok none w ∧ ∀ e ∈ es, e.key ≠ rkey a) ∨ ∃ j e, (Instr.findAsking 57 (rkey a) es i).run Try.prog w = .ok (some (i + j, e.val)) w ∧ es[j]? = some e ∧ e.key = rkey a ∧ ∀ k e', k < j → es[k]? = some e' → e'.key ≠ rkey a
  | [], _, _ => .inl ⟨by simp [Instr.findAsking], by simp⟩
  | e :: es, i, h => by
    obtain ⟨b, hb⟩ := h e (.head _)
    by_cases hab : a = b
    · refine .inr ⟨0, e, ?_, rfl, by rw [hb, hab], fun k e' hk => by omega⟩
      simp [Instr.findAsking, hb, rkey_eq, hab, Result.andThen]
    · have hne : e.key ≠ rkey a := fun q => hab (rkey_inj (by rw [← q, hb]))
      rcases rkey_find w a es (i + 1) (fun x hx => h x (.tail _ hx)) with ⟨h1, h2⟩ | ⟨j, e', h1, h2, h3, h4⟩
      · refine .inl ⟨?_, fun x hx => ?_⟩
        · simp [Instr.findAsking, hb, rkey_eq, hab, Result.andThen, h1]
        · cases hx with
          | head => exact hne
          | tail _ hx => exact h2 x hx
      · refine .inr ⟨j + 1, e', ?_, by simpa using h2, h3, fun k e'' hk he => ?_⟩
        · simp [Instr.findAsking, hb, rkey_eq, hab, Result.andThen, h1]
          omega
        · cases k with
          | zero => simp at he; subst he; exact hne
          | succ k => exact h4 k e'' (by omega) (by simpa using he)
theorem rkey_findKey (w : World) (a : Int × Int) (es : List MapEntry) : (Instr.findKey 57 (rkey a) es).run Try.prog w = (Instr.findAsking 57 (rkey a) es).run Try.prog w :=
  run_findKey_eq w (by rw [Try.underlying57]) _ _
theorem rkey_stays (w : World) (a : Int × Int) : (Instr.keyThatStays (rkey a) (rkey a)).run Try.prog w = .ok (rkey a) w := by
  have : Instr.sameBits 10000 (rkey a) (rkey a) = true := by
    obtain ⟨a1, a2⟩ := a
    simp [Instr.sameBits, rkey]
  simp [Instr.keyThatStays, this]
end Go.Proofs.Ytfpnpjpcjbndoaa
