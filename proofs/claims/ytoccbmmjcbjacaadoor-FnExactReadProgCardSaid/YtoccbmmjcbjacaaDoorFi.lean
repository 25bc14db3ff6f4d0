/- The reference's l9Show: how an instruction is written; no condition but that it is valid. -/
import Derived.Test.YtoccbmmjcbjacaaDoorFh
namespace Go.Proofs.YtoccbmmjcbjacaaDoor
open Go.RowKit Go.Sort

theorem name_len (n : Nat) : (nameN n).length ≤ 6 := by unfold nameN; split <;> decide
theorem showI_eq (i : Ins) : showI i = nameN i.op.toNat ++ [32] ++ wordA i.a ++ (if twoB i.op = true then [32] ++ intS i.b else []) := by
  unfold showI wordsI
  split <;> simp [joinW]
theorem intS_nat (n : Nat) : intS (n : Int) = digs n := by
  unfold intS
  rw [if_neg (by omega), Int.toNat_natCast]
theorem wordA_nat (n : Nat) : wordA (n : Int) = digs n := by
  unfold wordA
  rw [if_neg (by omega), intS_nat]

set_option maxHeartbeats 1600000 in
theorem show_any (i : Ins) (hi : insB i = true) (w : World) : Calls Tryd.prog 33 #[.agg #[.int .i64 i.op, .int .i64 i.a, .int .i64 i.b]] w fun e w' => e = .returned (.string (bs (showI i))) ∧ Kept 0 0 w w' := by
  have ho := op_lt hi
  have ha := a_ge hi
  have hb := b_ge hi
  rw [showI_eq]
  obtain ⟨op, a, b⟩ := i
  simp only at ho ha hb ⊢
  obtain ⟨n, rfl⟩ : ∃ n : Nat, op = (n : Int) := Int.eq_ofNat_of_zero_le ho.1
  obtain ⟨m, rfl⟩ : ∃ m : Nat, b = (m : Int) := Int.eq_ofNat_of_zero_le hb.1
  rw [Int.toNat_natCast, intS_nat]
  obtain ⟨R, hR⟩ : ∃ R, R = nameN n ++ [32] ++ wordA a ++ (if twoB (n : Int) = true then [32] ++ digs m else []) := ⟨_, rfl⟩
  rw [← hR]
  have HR := Lib.hid hR
  clear hR
  obtain ⟨W, hW⟩ : ∃ W, W = w.alloc (.cells #[.int .i64 n, .int .i64 a, .int .i64 m] 43) := ⟨_, rfl⟩
  have KW : Hid (Kept 0 0 w W) := by show Kept _ _ _ _; rw [hW]; exact Kept.alloc0 _ _
  have B : Hid (Blk W w.heap.size 43 #[.int .i64 n, .int .i64 a, .int .i64 m]) := by show Blk _ _ _ _; rw [hW]; exact Blk.new _ _ _
  have c0 := ins0 B.out
  have HW := Lib.hid hW
  clear hW hi
  go_enter Tryd.func33, Tryd.ntmps33
  go_upto_region 1 with fail
  rw [← HW.out]
  clear HW
  go_wp2_with fail
  with_reducible refine (name_any n (by omega) _).mono ?_
  rintro e w1 ⟨rfl, hk⟩
  have B1 := Lib.hid (B.out.kept hk (.inl (Nat.le_refl _)))
  have K1 := Lib.hid (KW.out.trans hk)
  have z0 : (bs (nameN n)).size ≤ 6 := by rw [bs_size]; exact name_len n
  have c1 := ins1 B1.out
  clear hk KW B c0
  by_cases h0 : a < 0
  · have HA : Hid (wordA a = itW) := by show _ = _; unfold wordA; rw [if_pos h0]
    have c0 := ins0 B1.out
    go_wp2_with fail
    with_reducible refine (two_any _ _).mono ?_
    rintro e w' ⟨rfl, rfl⟩
    clear c0
    cases ht : twoB (n : Int)
    · go_wp2_with fail
      go_ret
      exact ⟨ret_str (by rw [HR.out, HA.out, ht]; apply ByteArray.ext; simp [bs, itW]), K1.out⟩
    · have c2 := ins2 B1.out
      go_wp2_with fail
      with_reducible refine (int_any m (by omega) _).mono ?_
      rintro e w9 ⟨rfl, hk⟩
      have K9 := Lib.hid (K1.out.trans hk)
      have z9 : (bs (digs m)).size ≤ 12 := by rw [bs_size]; exact digs_len m 12 (by omega) (by omega)
      clear hk c2
      go_wp2_with fail
      go_ret
      exact ⟨ret_str (by rw [HR.out, HA.out, ht]; apply ByteArray.ext; simp [bs, itW]), K9.out⟩
  · obtain ⟨u, rfl⟩ : ∃ u : Nat, a = (u : Int) := Int.eq_ofNat_of_zero_le (by omega)
    have HA : Hid (wordA (u : Int) = digs u) := wordA_nat u
    go_wp2_with fail
    with_reducible refine (int_any u (by omega) _).mono ?_
    rintro e w2 ⟨rfl, hk⟩
    have B2 := Lib.hid (B1.out.kept hk (.inl (Nat.le_refl _)))
    have K2 := Lib.hid (K1.out.trans hk)
    have z2 : (bs (digs u)).size ≤ 12 := by rw [bs_size]; exact digs_len u 12 (by omega) (by omega)
    clear hk c1 B1 K1
    have c0 := ins0 B2.out
    go_wp2_with fail
    with_reducible refine (two_any _ _).mono ?_
    rintro e w' ⟨rfl, rfl⟩
    clear c0
    cases ht : twoB (n : Int)
    · go_wp2_with fail
      go_ret
      exact ⟨ret_str (by rw [HR.out, HA.out, ht]; apply ByteArray.ext; simp [bs, itW]), K2.out⟩
    · have c2 := ins2 B2.out
      go_wp2_with fail
      with_reducible refine (int_any m (by omega) _).mono ?_
      rintro e w9 ⟨rfl, hk⟩
      have K9 := Lib.hid (K2.out.trans hk)
      have z9 : (bs (digs m)).size ≤ 12 := by rw [bs_size]; exact digs_len m 12 (by omega) (by omega)
      clear hk c2
      go_wp2_with fail
      go_ret
      exact ⟨ret_str (by rw [HR.out, HA.out, ht]; apply ByteArray.ext; simp [bs, itW]), K9.out⟩
end Go.Proofs.YtoccbmmjcbjacaaDoor
