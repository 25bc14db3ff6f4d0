/- The program's SpreadOk and notifyingOf; no condition beyond that the slices can be read. -/
import Derived.Test.YtlfbmjfbebbdlaaWp
namespace Go.Proofs.Ytlfbmjfbebbdlaa
open Go.RowKit Go.Sort

theorem bz0 {w : World} {g : Nat} {ty : TypeId} {a b : Value} (h : Blk w g ty #[a, b]) : w.cell? ⟨g, 0, none⟩ = some a := h.cell 0
theorem bz1 {w : World} {g : Nat} {ty : TypeId} {a b : Value} (h : Blk w g ty #[a, b]) : w.cell? ⟨g, 1, none⟩ = some b := h.cell 1
theorem not_spr_at {t : List Nd} {s : Spr} {k : Nat} (hk : k < s.work.length) (h : ¬ (0 ≤ s.work[k] ∧ s.work[k] < t.length)) : spreadB t s = false := spreadB_false.2 fun o => h (o.work k hk)

set_option maxHeartbeats 3200000 in
theorem implSpreadOk (t : List Nd) (s : Spr) (v u : Value) (w : World) (h : RdNd w w.heap.size v t) (h' : RdS w w.heap.size u s) :
    Calls Try.prog 24 #[v, u] w fun e w' => e = .returned (.bool (spreadB t s)) ∧ Kept 0 0 w w' := by
  have hm := h.len
  unfold maxLen at hm
  have HT := Lib.hid h
  obtain ⟨A, c, rfl, h⟩ := h
  clear h
  obtain ⟨hv, lv, rfl, ⟨A1, c1, rfl, s1⟩, ⟨A2, c2, rfl, s2⟩⟩ := h'
  have m1 := s1.rd.1
  have m2 := s2.rd.1
  unfold maxLen at m1 m2
  have S2 := Lib.hid s2.rd
  obtain ⟨W, hW⟩ : ∃ W, W = w.alloc (.cells #[.slice A1 s.told.length c1, .slice A2 s.work.length c2] 31) := ⟨_, rfl⟩
  have KW : Hid (Kept 0 0 w W) := by show Kept _ _ _ _; rw [hW]; exact Kept.alloc0 _ _
  have B0 : Hid (Blk W w.heap.size 31 #[.slice A1 s.told.length c1, .slice A2 s.work.length c2]) := by show Blk _ _ _ _; rw [hW]; exact Blk.new _ _ _
  have CO := Lib.hid (implTreeOk t _ W (HT.out.up KW.out))
  have HW := Lib.hid hW
  clear hW s1 s2
  go_enter Try.func24, Try.ntmps24
  go_wp2_with fail
  rw [← HW.out]
  with_reducible refine CO.out.mono ?_
  rintro e w1 ⟨rfl, hk⟩
  have K1 := Lib.hid (KW.out.trans hk)
  have B1 := Lib.hid (B0.out.kept hk (.inl (Nat.le_refl _)))
  clear hk CO KW B0 HW
  cases q1 : treeB t
  · have E : Hid (spreadB t s = false) := not_spr_tree q1
    clear q1
    go_wp2
    go_ret
    exact ⟨ret_bool E.out.symm, K1.out⟩
  have HP := Lib.hid (treeB_true.1 q1)
  clear q1
  have b0 := bz0 B1.out
  have b1 := bz1 B1.out
  by_cases h1 : s.told.length = t.length
  case neg =>
    have E : Hid (spreadB t s = false) := not_spr_told h1
    have g1 : ((s.told.length : Int) != (t.length : Int)) = true := by simp; omega
    clear h1
    go_wp2
    go_ret
    exact ⟨ret_bool E.out.symm, K1.out⟩
  have g1 : ((s.told.length : Int) != (t.length : Int)) = false := by simp [h1]
  have H1 := Lib.hid h1
  clear h1
  rcases Nat.lt_or_ge 240 s.work.length with h2 | h2
  · have E : Hid (spreadB t s = false) := not_spr_cap h2
    have g2 : decide ((240 : Int) < (s.work.length : Int)) = true := by simp; omega
    clear h2
    go_wp2
    go_ret
    exact ⟨ret_bool E.out.symm, K1.out⟩
  have g2 : decide ((240 : Int) < (s.work.length : Int)) = false := by simp; omega
  go_wp2
  clear b0 b1
  go_loop [27] (fun i => ∃ k : Nat, k ≤ s.work.length ∧ i = .int .i64 k ∧ Hid (PreW t s k)) (fun i => s.work.length - (intOf i).toNat)
  case atStart => exact ⟨0, Nat.zero_le _, rfl, Lib.hid (PreW.zero t s)⟩
  case round =>
    obtain ⟨k, hk, rfl, HPW⟩ := hrel
    by_cases hlt : k < s.work.length
    · obtain ⟨ad, rfl, _, c0⟩ := (S2.out.kept (Nat.le_refl _) K1.out (.inl (Nat.le_refl _))).i hlt
      have i1 : (k : Int) < (s.work.length : Int) := by omega
      obtain ⟨x, hx⟩ : ∃ x, x = s.work[k] := ⟨_, rfl⟩
      rw [← hx] at c0
      by_cases h3 : x < 0
      · have E : Hid (spreadB t s = false) := not_spr_at hlt (by rw [← hx]; omega)
        have g3 : decide (x < 0) = true := by simpa using h3
        clear h3 hx
        go_wp2
        go_ret
        exact ⟨ret_bool E.out.symm, K1.out⟩
      have g3 : decide (x < 0) = false := by simpa using h3
      by_cases h4 : x < t.length
      · have HP2 : Hid (PreW t s (k + 1)) := HPW.out.succ hlt (by rw [← hx]; omega) (by rw [← hx]; exact h4)
        have g4 : decide ((t.length : Int) ≤ x) = false := by simp; omega
        clear h3 h4 hx HPW
        go_wp2
        go_round
        case rel => exact ⟨k + 1, by omega, by go_num, HP2⟩
        case measure => simp [intOf]; omega
      · have E : Hid (spreadB t s = false) := not_spr_at hlt (by rw [← hx]; omega)
        have g4 : decide ((t.length : Int) ≤ x) = true := by simp; omega
        clear h3 h4 hx
        go_wp2
        go_ret
        exact ⟨ret_bool E.out.symm, K1.out⟩
    · have E : Hid (spreadB t s = true) := HPW.out.all HP.out H1.out h2 (by omega)
      go_wp2
      go_ret
      exact ⟨ret_bool E.out.symm, K1.out⟩
end Go.Proofs.Ytlfbmjfbebbdlaa
