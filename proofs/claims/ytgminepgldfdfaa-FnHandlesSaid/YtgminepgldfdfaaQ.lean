/- The reference's Holds returns the same plain function of the lists and the handle; no condition. -/
import Derived.Test.YtgminepgldfdfaaP
import Derived.Lib.QuietBelow
namespace Go.Proofs.Ytgminepgldfdfaa
open Go.RowKit Go.Sort

theorem Kept.regrown (W : World) (d : Nat) (os : Array Obj) : Kept 0 0 W (grow (redrawn W d) os) := Kept.of_below (below_regrown W d os) _ _
theorem regrown_call {P : Program} {f : FuncId} {args : Array Value} {W : World} {d : Nat} {os : Array Obj} {v : Value}
    (h : Calls P f args (grow (redrawn W d) os) fun e w' => e = .returned v ∧ Kept 0 0 (grow (redrawn W d) os) w') : Calls P f args (grow (redrawn W d) os) fun e w'' => e = .returned v ∧ ∃ p : Regrown, w'' = grow (redrawn W p.d) p.os :=
  Calls.regrown_of (h.mono fun _ _ ⟨he, hk⟩ => ⟨he, hk.below (Nat.le_refl _) (.inl (Nat.le_refl _))⟩)
theorem regrown_same {P : Program} {f : FuncId} {args : Array Value} {W : World} {d : Nat} {os : Array Obj} {v : Value}
    (h : Calls P f args (grow (redrawn W d) os) fun e w' => e = .returned v ∧ (grow (redrawn W d) os) = w') : Calls P f args (grow (redrawn W d) os) fun e w'' => e = .returned v ∧ ∃ p : Regrown, w'' = grow (redrawn W p.d) p.os :=
  h.mono fun _ _ ⟨he, hk⟩ => ⟨he, ⟨⟨d, os⟩, hk.symm⟩⟩
theorem RdS.regrown {W : World} {B : Nat} {A A' : Option Addr} {ages : List Int} {used : List Bool} (h : RdS W B A A' ages used) (hB : B ≤ W.heap.size) (d : Nat) (os : Array Obj) : RdS (grow (redrawn W d) os) B A A' ages used :=
  h.kept hB (Kept.regrown W d os) (.inl (Nat.le_refl _))

set_option maxHeartbeats 1600000 in
theorem holdsSpec_any (ages : List Int) (used : List Bool) (s a : Int) (A A' : Option Addr) (c c' B : Nat) (w : World) (hB : B ≤ w.heap.size) (h : RdS w B A A' ages used) :
    Calls Try.prog 28 #[.agg #[.slice A ages.length c, .slice A' used.length c'], .agg #[.int .i64 s, .int .i64 a]] w fun e w' => e = .returned (.bool (holdsB ages used s a)) ∧ Kept 0 0 w w' := by
  have hm := h.i.1
  unfold maxLen at hm
  have H := Lib.hid h
  clear h
  go_enter Try.func28, Try.ntmps28
  go_wp2
  obtain ⟨W, hW⟩ : ∃ W, W = (w.alloc (.cells #[.slice A ages.length c, .slice A' used.length c'] 31)).alloc (.cells #[.int .i64 s, .int .i64 a] 36) := ⟨_, rfl⟩
  have c0 : W.cell? ⟨w.heap.size, 0, none⟩ = some (.slice A ages.length c) := by rw [hW]; exact ((Blk.new w 31 _).alloc _).cell 0
  have c1 : W.cell? ⟨w.heap.size, 1, none⟩ = some (.slice A' used.length c') := by rw [hW]; exact ((Blk.new w 31 _).alloc _).cell 1
  have b2 : Blk W (w.heap.size + 1) 36 #[.int .i64 s, .int .i64 a] := by rw [hW]; have := (Blk.new (w.alloc (.cells #[.slice A ages.length c, .slice A' used.length c'] 31)) 36 #[.int .i64 s, .int .i64 a]); simpa using this
  have c2 : W.cell? ⟨w.heap.size + 1, 0, none⟩ = some (.int .i64 s) := b2.cell 0
  have c3 : W.cell? ⟨w.heap.size + 1, 1, none⟩ = some (.int .i64 a) := b2.cell 1
  have hBW : B ≤ W.heap.size := by rw [hW]; simp; omega
  have R := Lib.hid (H.out.kept hB (by rw [hW]; exact ((Kept.alloc0 w (.cells #[.slice A ages.length c, .slice A' used.length c'] 31)).alloc (.cells #[.int .i64 s, .int .i64 a] 36))) (.inl (Nat.le_refl _)) : RdS W B A A' ages used)
  have K := Lib.hid (show Kept 0 0 w W by rw [hW]; exact (Kept.alloc0 w _).alloc _)
  rw [← hW]
  clear hW b2 H
  have k0 := cell_regrown c0
  have k1 := cell_regrown c1
  have k2 := cell_regrown c2
  have k3 := cell_regrown c3
  clear c0 c1 c2 c3
  have cOk : ∀ d os, Calls Try.prog 20 #[.agg #[.slice A ages.length c, .slice A' used.length c']] (grow (redrawn W d) os) fun e w'' => e = .returned (.bool (slotsOkB ages used)) ∧ ∃ p : Regrown, w'' = grow (redrawn W p.d) p.os :=
    fun d os => regrown_call (okSpec_any _ _ _ _ _ _ B _ (Nat.le_trans hBW (Kept.regrown W d os).size) (R.out.regrown hBW d os))
  cases hb : slotsOkB ages used
  · have E := Lib.hid (holds_bad s a hb)
    rw [hb] at cOk
    clear hb
    have CO := Lib.hid cOk
    clear cOk
    refine wp_region_quiet_below (by kernel_rfl) (by kernel_rfl) ?_
    repeat (first | go_big_quiet_step (exact CO.out _ _) | quiet_step (exact CO.out _ _))
    refine wpQuiet_nil ?_
    intro _ hw'
    obtain ⟨⟨dq, osq⟩, hw''⟩ := hw'
    subst hw''
    go_wp2
    go_ret
    exact ⟨ret_bool E.out.symm, K.out.trans (Kept.regrown W dq osq)⟩
  rw [hb] at cOk
  have CO := Lib.hid cOk
  clear cOk
  have HL := Lib.hid (slotsOk_len hb)
  by_cases g : s < 0 ∨ (ages.length : Int) ≤ s
  · have E := Lib.hid (holds_out (ages := ages) (used := used) s a g)
    have CI : Hid (∀ d os, Calls Try.prog 38 #[.int .i64 s, .int .i64 0, .int .i64 ((ages.length : Int) - 1)] (grow (redrawn W d) os) fun e w'' => e = .returned (.bool false) ∧ ∃ p : Regrown, w'' = grow (redrawn W p.d) p.os) := by
      intro d os
      have := regrown_same (l1In_any s 0 ((ages.length : Int) - 1) (grow (redrawn W d) os))
      rwa [show (decide (0 ≤ s) && decide (s ≤ (ages.length : Int) - 1)) = false from by simp; omega] at this
    clear hb g
    refine wp_region_quiet_below (by kernel_rfl) (by kernel_rfl) ?_
    repeat (first | go_big_quiet_step (first | exact CO.out _ _ | exact CI.out _ _) | quiet_step (first | exact CO.out _ _ | exact CI.out _ _))
    refine wpQuiet_nil ?_
    intro _ hw'
    obtain ⟨⟨dq, osq⟩, hw''⟩ := hw'
    subst hw''
    go_wp2
    go_ret
    exact ⟨ret_bool E.out.symm, K.out.trans (Kept.regrown W dq osq)⟩
  obtain ⟨k, rfl⟩ := Int.eq_ofNat_of_zero_le (show 0 ≤ s by omega)
  have hk1 : k < ages.length := by omega
  have hk2 : k < used.length := by have := HL.out; omega
  have CI : Hid (∀ d os, Calls Try.prog 38 #[.int .i64 k, .int .i64 0, .int .i64 ((ages.length : Int) - 1)] (grow (redrawn W d) os) fun e w'' => e = .returned (.bool true) ∧ ∃ p : Regrown, w'' = grow (redrawn W p.d) p.os) := by
    intro d os
    have := regrown_same (l1In_any k 0 ((ages.length : Int) - 1) (grow (redrawn W d) os))
    rwa [show (decide ((0 : Int) ≤ k) && decide ((k : Int) ≤ (ages.length : Int) - 1)) = true from by simp; omega] at this
  have E := Lib.hid (holds_in k a hb hk1 hk2)
  have l1 : (ages.length : Int) ≤ 64 := by have := HL.out; omega
  have l2 : (used.length : Int) ≤ 64 := by have := HL.out; omega
  have i1 : (k : Int) < (ages.length : Int) := by omega
  have i2 : (k : Int) < (used.length : Int) := by omega
  clear hb g
  obtain ⟨ad, rfl, _, hc⟩ := R.out.b.at_ hk2
  obtain ⟨ad2, rfl, _, hc2⟩ := R.out.i.at_ hk1
  have k4 := cell_regrown hc
  have k5 := cell_regrown hc2
  clear hc hc2
  generalize used[k] = u at k4 E
  cases u
  · refine wp_region_quiet_below (by kernel_rfl) (by kernel_rfl) ?_
    repeat (first | go_big_quiet_step (first | exact CO.out _ _ | exact CI.out _ _) | quiet_step (first | exact CO.out _ _ | exact CI.out _ _))
    refine wpQuiet_nil ?_
    intro _ hw'
    obtain ⟨⟨dq, osq⟩, hw''⟩ := hw'
    subst hw''
    go_wp2
    go_ret
    exact ⟨ret_bool E.out.symm, K.out.trans (Kept.regrown W dq osq)⟩
  · cases he : (ages[k] == a)
    · rw [he] at E
      refine wp_region_quiet_below (by kernel_rfl) (by kernel_rfl) ?_
      repeat (first | go_big_quiet_step (first | exact CO.out _ _ | exact CI.out _ _) | quiet_step (first | exact CO.out _ _ | exact CI.out _ _))
      refine wpQuiet_nil ?_
      intro _ hw'
      obtain ⟨⟨dq, osq⟩, hw''⟩ := hw'
      subst hw''
      go_wp2
      go_ret
      exact ⟨ret_bool E.out.symm, K.out.trans (Kept.regrown W dq osq)⟩
    · rw [he] at E
      refine wp_region_quiet_below (by kernel_rfl) (by kernel_rfl) ?_
      repeat (first | go_big_quiet_step (first | exact CO.out _ _ | exact CI.out _ _) | quiet_step (first | exact CO.out _ _ | exact CI.out _ _))
      refine wpQuiet_nil ?_
      intro _ hw'
      obtain ⟨⟨dq, osq⟩, hw''⟩ := hw'
      subst hw''
      go_wp2
      go_ret
      exact ⟨ret_bool E.out.symm, K.out.trans (Kept.regrown W dq osq)⟩
end Go.Proofs.Ytgminepgldfdfaa
