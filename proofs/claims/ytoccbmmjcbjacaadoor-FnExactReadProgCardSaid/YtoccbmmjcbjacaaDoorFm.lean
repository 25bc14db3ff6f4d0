/- The program's InsOk; no condition. -/
import Derived.Test.YtoccbmmjcbjacaaDoorFl
import Derived.Test.YtoccbmmjcbjacaaDoorFe
import Derived.Deep.RegionWith
import Derived.Deep.RegionHeld3
import Derived.Deep.DeepCutAuto
namespace Go.Proofs.YtoccbmmjcbjacaaDoor
open Go.RowKit Go.Sort

theorem kind_not_nil (t : TypeId) (v : Value) (W : World) : (binOp .eql 63 (.iface t v) .nilIface).run Tryd.prog W = .ok (.bool false) W := by kernel_rfl
theorem insB_rng (op a b : Int) (h : 0 ≤ op ∧ op ≤ 10) : insB ⟨op, a, b⟩ = (hasB (rngA op.toNat) a && hasB (rngB op.toNat) b) := by
  obtain ⟨k, rfl⟩ : ∃ k : Nat, op = k := ⟨op.toNat, by omega⟩
  have hk : k < 11 := by omega
  clear h
  rw [Int.toNat_natCast]
  match k, hk with
  | 0, _ => rw [Bool.eq_iff_iff]; simp [insB, inI, leashB, hasB, rngA, rngB]; omega
  | 1, _ => rw [Bool.eq_iff_iff]; simp [insB, inI, leashB, hasB, rngA, rngB]; omega
  | 2, _ => rw [Bool.eq_iff_iff]; simp [insB, inI, leashB, hasB, rngA, rngB]; omega
  | 3, _ => rw [Bool.eq_iff_iff]; simp [insB, inI, leashB, hasB, rngA, rngB]
  | 4, _ => rw [Bool.eq_iff_iff]; simp [insB, inI, leashB, hasB, rngA, rngB]
  | 5, _ => rw [Bool.eq_iff_iff]; simp [insB, inI, leashB, hasB, rngA, rngB]; omega
  | 6, _ => rw [Bool.eq_iff_iff]; simp [insB, inI, leashB, hasB, rngA, rngB]
  | 7, _ => rw [Bool.eq_iff_iff]; simp [insB, inI, leashB, hasB, rngA, rngB]
  | 8, _ => rw [Bool.eq_iff_iff]; simp [insB, inI, leashB, hasB, rngA, rngB]; omega
  | 9, _ => rw [Bool.eq_iff_iff]; simp [insB, inI, leashB, hasB, rngA, rngB]; omega
  | 10, _ => rw [Bool.eq_iff_iff]; simp [insB, inI, leashB, hasB, rngA, rngB]
theorem insB_out (op a b : Int) (h : ¬ (0 ≤ op ∧ op ≤ 10)) : insB ⟨op, a, b⟩ = false := by
  cases hi : insB ⟨op, a, b⟩ with
  | false => rfl
  | true => exact absurd (op_lt hi) h

theorem oper_at (k : Nat) (hk : k < 11) (w : World) : Calls Tryd.prog 45 #[.iface (kTy k) (kPay k)] w fun e w' => e = .returned (.tuple #[.agg #[.int .i64 (rngA k).1, .int .i64 (rngA k).2], .agg #[.int .i64 (rngB k).1, .int .i64 (rngB k).2]]) ∧ Kept 0 0 w w' := oper_any k hk w
theorem has_at (lo hi n : Int) (w : World) : Calls Tryd.prog 52 #[.agg #[.int .i64 lo, .int .i64 hi], .int .i64 n] w fun e w' => e = .returned (.bool (hasB (lo, hi) n)) ∧ Kept 0 0 w w' := has_any (lo, hi) n w
set_option maxHeartbeats 1600000 in
theorem implInsOk (i : Ins) (w : World) : Calls Tryd.prog 28 #[.agg #[.int .i64 i.op, .int .i64 i.a, .int .i64 i.b]] w fun e w' => e = .returned (.bool (insB i)) ∧ Kept 0 0 w w' := by
  obtain ⟨op, a, b⟩ := i
  obtain ⟨W, hW⟩ : ∃ W, W = w.alloc (.cells #[.int .i64 op, .int .i64 a, .int .i64 b] 43) := ⟨_, rfl⟩
  have KW : Hid (Kept 0 0 w W) := by show Kept _ _ _ _; rw [hW]; exact Kept.alloc0 _ _
  have B : Hid (Blk W w.heap.size 43 #[.int .i64 op, .int .i64 a, .int .i64 b]) := by show Blk _ _ _ _; rw [hW]; exact Blk.new _ _ _
  have c0 := ins0 B.out
  have c1 := ins1 B.out
  have c2 := ins2 B.out
  have HW := Lib.hid hW
  clear hW
  go_enter Tryd.func28, Tryd.ntmps28
  go_upto_region 1 with fail
  rw [← HW.out]
  go_wp2_with fail
  with_reducible refine (instr_at op _).mono ?_
  rintro e w1 ⟨rfl, hw1⟩
  subst hw1
  by_cases ho : 0 ≤ op ∧ op ≤ 10
  case neg =>
    have E := Lib.hid (insB_out op a b ho)
    unfold instrV
    rw [if_neg ho]
    go_wp2_with fail
    go_ret
    exact ⟨ret_bool E.out.symm, KW.out⟩
  have E := Lib.hid (insB_rng op a b ho)
  have hk : Hid (op.toNat < 11) := by show _ < _; omega
  unfold instrV
  rw [if_pos ho]
  obtain ⟨k, hkk⟩ : ∃ k, k = op.toNat := ⟨_, rfl⟩
  rw [← hkk] at E hk ⊢
  clear hkk ho
  have hn := kind_not_nil (kTy k) (kPay k)
  unfold kindV
  go_wp2_with fail
  with_reducible refine (oper_at k hk.out _).mono ?_
  rintro e w2 ⟨rfl, hk2⟩
  have K2 := Lib.hid (KW.out.trans hk2)
  have B2 := Lib.hid (B.out.kept hk2 (.inl (Nat.le_refl _)))
  clear hk2 B c0 c1 c2
  obtain ⟨V, hV⟩ : ∃ V, V = (w2.alloc (.cells #[.int .i64 (rngA k).1, .int .i64 (rngA k).2] 68)).alloc (.cells #[.int .i64 (rngB k).1, .int .i64 (rngB k).2] 68) := ⟨_, rfl⟩
  have KV : Hid (Kept 0 0 w2 V) := by show Kept _ _ _ _; rw [hV]; exact (Kept.alloc0 _ _).alloc _
  have BA : Blk V w2.heap.size 68 #[.int .i64 (rngA k).1, .int .i64 (rngA k).2] := by rw [hV]; exact (Blk.new _ _ _).alloc _
  have BB : Blk V (w2.heap.size + 1) 68 #[.int .i64 (rngB k).1, .int .i64 (rngB k).2] := by
    have := Blk.new (w2.alloc (.cells #[.int .i64 (rngA k).1, .int .i64 (rngA k).2] 68)) 68 #[.int .i64 (rngB k).1, .int .i64 (rngB k).2]
    rw [show (w2.alloc (.cells #[.int .i64 (rngA k).1, .int .i64 (rngA k).2] 68)).heap.size = w2.heap.size + 1 by simp] at this
    rw [hV]; exact this
  have HV := Lib.hid hV
  clear hV
  have B3 := B2.out.kept KV.out (.inl (Nat.le_refl _))
  have c1 := ins1 B3
  have c2 := ins2 B3
  have a0 := BA.cell 0
  have a1 := BA.cell 1
  have b0 := BB.cell 0
  have b1 := BB.cell 1
  simp only [List.getElem?_toArray, List.getElem?_cons_succ, List.getElem?_cons_zero] at a0 a1 b0 b1
  go_upto_region 5 with fail
  rw [← HV.out]
  have F1 : ∀ w3, Kept 0 0 V w3 → w3.cell? ⟨w2.heap.size + 1, 0, none⟩ = some (.int .i64 (rngB k).1) ∧ w3.cell? ⟨w2.heap.size + 1, 1, none⟩ = some (.int .i64 (rngB k).2) ∧ w3.cell? ⟨w.heap.size, 2, none⟩ = some (.int .i64 b) := fun w3 hk3 => ⟨by have := (BB.kept hk3 (.inl (Nat.le_refl _))).cell 0; simpa using this, by have := (BB.kept hk3 (.inl (Nat.le_refl _))).cell 1; simpa using this, ins2 (B3.kept hk3 (.inl (Nat.le_refl _)))⟩
  have HF := Lib.hid F1
  clear F1 B3 BA BB b0 b1 c2
  go_wp2_with fail
  with_reducible refine (has_at _ _ _ _).mono ?_
  rintro e w3 ⟨rfl, hk3⟩
  obtain ⟨d0, d1, d2⟩ := HF.out w3 hk3
  have K3 := Lib.hid ((K2.out.trans KV.out).trans hk3)
  clear hk3
  cases h1 : hasB (rngA k) a
  · have G : Hid (insB ⟨op, a, b⟩ = false) := by show _ = _; rw [E.out, h1]; rfl
    go_wp2_with fail
    go_ret
    exact ⟨ret_bool G.out.symm, K3.out⟩
  · have G : Hid (insB ⟨op, a, b⟩ = hasB (rngB k) b) := by show _ = _; rw [E.out, h1]; rfl
    go_wp2_with fail
    with_reducible refine (has_at _ _ _ _).mono ?_
    rintro e w4 ⟨rfl, hk4⟩
    have K4 := Lib.hid (K3.out.trans hk4)
    clear hk4
    go_wp2_with fail
    go_ret
    exact ⟨ret_bool G.out.symm, K4.out⟩
end Go.Proofs.YtoccbmmjcbjacaaDoor
