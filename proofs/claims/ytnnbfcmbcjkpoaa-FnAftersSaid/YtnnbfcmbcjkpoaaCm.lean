/- Maps keyed by handles: what a look-up, a store and a delete do, whatever the map holds; no condition beyond that the block is a map whose keys are handles. -/
import Derived.Test.YtnnbfcmbcjkpoaaGr
import Derived.Maps.OwnOps
import Derived.MapKept
import Derived.WideKeyRuns
import Derived.Maps.OwnSet
namespace Go.Proofs.Ytnnbfcmbcjkpoaa
open Go.RowKit Go.Sort

/-- A handle as a key. -/
def hkey (h : Int × Int) : Value := .agg #[.int .i64 h.1, .int .i64 h.2]
theorem hkey_inj {a b : Int × Int} (h : hkey a = hkey b) : a = b := by
  unfold hkey at h
  injection h with h
  injection h with h
  injection h with h1 h
  injection h with h2 _
  injection h1 with _ h1
  injection h2 with _ h2
  exact Prod.ext h1 h2
set_option maxRecDepth 100000 in
theorem hkey_eq (w : World) (a b : Int × Int) : (Op.equal 40 (hkey a) (hkey b)).run Try.prog w = .ok (decide (a = b)) w := by
  obtain ⟨a1, a2⟩ := a
  obtain ⟨b1, b2⟩ := b
  unfold hkey Op.equal Op.maxDepth
  have e := run_equalIn_agg (P := Try.prog) w 9999 40 #[.int .i64 a1, .int .i64 a2] #[.int .i64 b1, .int .i64 b2] (by kernel_rfl) (by kernel_rfl)
  rw [e]
  have hf : (Try.prog.fieldsOf 40) = #[{ name := "Slot", type := 2, offset := 0, embedded := false, tag := "", pkgPath := "", byteOffset := 0 }, { name := "Age", type := 2, offset := 1, embedded := false, tag := "", pkgPath := "", byteOffset := 8 }] := by kernel_rfl
  have p0 : ∀ (u v : Int) (w : World), (Go.part 2 #[.int .i64 u, .int .i64 v] 0).run Try.prog w = .ok (.int .i64 u) w := fun u v w => run_part_plain w (e := 2) (by kernel_rfl) rfl
  have p1 : ∀ (u v : Int) (w : World), (Go.part 2 #[.int .i64 u, .int .i64 v] 1).run Try.prog w = .ok (.int .i64 v) w := fun u v w => run_part_plain w (e := 2) (by kernel_rfl) rfl
  have q : ∀ (u v : Int) (w : World), (Op.equalIn 9999 2 (.int .i64 u) (.int .i64 v)).run Try.prog w = .ok (u == v) w := fun u v w => run_equalIn_int w 9998 2 .i64 .i64 u v Try.underlying2
  rw [hf]
  by_cases h1 : a1 = b1
  · by_cases h2 : a2 = b2
    · simp [Op.eqFields, p0, p1, q, h1, h2, Result.andThen]
    · simp [Op.eqFields, p0, p1, q, h1, h2, Result.andThen]
  · simp [Op.eqFields, p0, q, h1, Result.andThen]
set_option maxRecDepth 100000 in
theorem hkey_check (w : World) (e : Bool) (a : Int × Int) : (Instr.checkKey e 10000 40 (hkey a)).run Try.prog w = .ok () w := by
  obtain ⟨a1, a2⟩ := a
  unfold hkey
  have p0 : ∀ (u v : Int) (w : World), (Go.part 2 #[.int .i64 u, .int .i64 v] 0).run Try.prog w = .ok (.int .i64 u) w := fun u v w => run_part_plain w (e := 2) (by kernel_rfl) rfl
  have p1 : ∀ (u v : Int) (w : World), (Go.part 2 #[.int .i64 u, .int .i64 v] 1).run Try.prog w = .ok (.int .i64 v) w := fun u v w => run_part_plain w (e := 2) (by kernel_rfl) rfl
  have q : ∀ (u : Int) (w : World), (Instr.checkKey e 9999 2 (.int .i64 u)).run Try.prog w = .ok () w := fun u w => MapKept.run_checkKey Try.underlying2 (d := .int .i64) (k := .int .i64 u) rfl e 9998
  rw [show (10000 : Nat) = 9999 + 1 from rfl]
  unfold Instr.checkKey
  simp only [Sem.run_bind, run_underlying Try.underlying40, Result.andThen]
  rw [← Array.forIn_toList]
  simp [p0, p1, q, Result.andThen]
/-- What a look-up finds among these entries. -/
theorem hkey_find (w : World) (a : Int × Int) : ∀ (es : List MapEntry) (i : Nat), (∀ e ∈ es, ∃ h, e.key = hkey h) →
    ((Instr.findAsking 40 (hkey a) es i).run Try.prog w = .ok none w ∧ ∀ e ∈ es, e.key ≠ hkey a) ∨ ∃ j e, (Instr.findAsking 40 (hkey a) es i).run Try.prog w = .ok (some (i + j, e.val)) w ∧ es[j]? = some e ∧ e.key = hkey a ∧ ∀ k e', k < j → es[k]? = some e' → e'.key ≠ hkey a
  | [], _, _ => .inl ⟨by simp [Instr.findAsking], by simp⟩
  | e :: es, i, h => by
    obtain ⟨b, hb⟩ := h e (.head _)
    by_cases hab : a = b
    · refine .inr ⟨0, e, ?_, rfl, by rw [hb, hab], fun k e' hk => by omega⟩
      simp [Instr.findAsking, hb, hkey_eq, hab, Result.andThen]
    · have hne : e.key ≠ hkey a := fun q => hab (hkey_inj (by rw [← q, hb]))
      rcases hkey_find w a es (i + 1) (fun x hx => h x (.tail _ hx)) with ⟨h1, h2⟩ | ⟨j, e', h1, h2, h3, h4⟩
      · refine .inl ⟨?_, fun x hx => ?_⟩
        · simp [Instr.findAsking, hb, hkey_eq, hab, Result.andThen, h1]
        · cases hx with
          | head => exact hne
          | tail _ hx => exact h2 x hx
      · refine .inr ⟨j + 1, e', ?_, by simpa using h2, h3, fun k e'' hk he => ?_⟩
        · simp [Instr.findAsking, hb, hkey_eq, hab, Result.andThen, h1]
          omega
        · cases k with
          | zero => simp at he; subst he; exact hne
          | succ k => exact h4 k e'' (by omega) (by simpa using he)
theorem hkey_findKey (w : World) (a : Int × Int) (es : List MapEntry) : (Instr.findKey 40 (hkey a) es).run Try.prog w = (Instr.findAsking 40 (hkey a) es).run Try.prog w :=
  run_findKey_eq w (by rw [Try.underlying40]) _ _
end Go.Proofs.Ytnnbfcmbcjkpoaa
