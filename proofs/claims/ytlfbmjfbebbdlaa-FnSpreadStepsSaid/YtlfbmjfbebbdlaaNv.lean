/- The reference's ChildrenOf, ChainOf, ValueIn and DueOf; no condition beyond that the slice can be read. -/
import Derived.Test.YtlfbmjfbebbdlaaNu
namespace Go.Proofs.Ytlfbmjfbebbdlaa
open Go.RowKit Go.Sort

theorem own_litI (w : World) (x : Int) : (w.alloc (.cells #[.int .i64 x] 2)).ownsRow w.heap.size 2 1 (.slice (some ⟨w.heap.size, 0, none⟩) 1 1) 1 (iR.flat [x]) :=
  World.ownsRow_lit w #[.int .i64 x] 1 (Nat.le_refl _) (by unfold maxLen; omega) rfl
theorem rd_litI (w : World) (x : Int) : RdR iR (w.alloc (.cells #[.int .i64 x] 2)) (w.heap.size + 1) (some ⟨w.heap.size, 0, none⟩) [x] := by
  have := (OwnZ.rd (R := iR) (OwnZ.of_row (own_litI w x))).2
  simpa using this

set_option maxHeartbeats 1600000 in
theorem kids5_any (t : List Nd) (n : Int) (v : Value) (w : World) (h : RdNd w w.heap.size v t) :
    Calls Try.prog 71 #[v, .int .i64 n] w fun e w' => ∃ u, e = .returned u ∧ OwnI w' w.heap.size w'.heap.size u (kidsL t n) ∧ Kept 0 0 w w' := by
  have H := Lib.hid h
  obtain ⟨W, hW⟩ : ∃ W, W = w.alloc (.cells #[] 2) := ⟨_, rfl⟩
  have KW : Hid (Kept 0 0 w W) := by show Kept _ _ _ _; rw [hW]; exact Kept.alloc0 _ _
  have B0 : Hid (Blk W w.heap.size 2 #[]) := by show Blk _ _ _ _; rw [hW]; exact Blk.new _ _ _
  have CO := Lib.hid (has5_any t n v W (H.out.up KW.out))
  have HW := Lib.hid hW
  clear hW
  obtain ⟨A, c, rfl, h⟩ := h
  clear h
  have HS := Lib.hid iSlice
  cases q1 : hasB t n
  · have EL : Hid (kidsL t n = []) := by show _ = _; simp [kidsL, q1]
    rw [q1] at CO
    clear q1
    go_enter Try.func71, Try.ntmps71
    go_wp2_with fail
    rw [← HW.out]
    with_reducible refine CO.out.mono ?_
    rintro e w1 ⟨rfl, hk⟩
    have K1 := Lib.hid (KW.out.trans hk)
    have B1 := Lib.hid (B0.out.kept hk (.inl (Nat.le_refl _)))
    clear hk CO
    go_wp2
    go_ret
    rw [EL.out]
    exact ⟨_, rfl, ⟨_, 0, rfl, OwnZ.mk_ (own_emptyZ B1.out (Nat.le_refl _)) B1.out.lt⟩, K1.out⟩
  have L : t.length ≤ 60 := (hasB_true.1 q1).1.len
  have EL : Hid (kidsL t n = kidsFrom n 0 t) := by show _ = _; simp [kidsL, q1]
  rw [q1] at CO
  clear q1
  go_enter Try.func71, Try.ntmps71
  go_wp2_with fail
  rw [← HW.out]
  with_reducible refine CO.out.mono ?_
  rintro e w1 ⟨rfl, hk⟩
  have K1 := Lib.hid (KW.out.trans hk)
  have B1 := Lib.hid (B0.out.kept hk (.inl (Nat.le_refl _)))
  clear hk CO B0 KW HW
  go_wp2_with fail
  go_loopw [5, 6] (fun out i wr => ∃ (k : Nat) (D : Option Addr) (d : Nat) (ks : List Int), k ≤ t.length ∧ i = .int .i64 k ∧ out = .slice D ks.length d ∧ Hid (ks = kidsTo t n k) ∧ Hid (wr.ownsRow w.heap.size 2 1 (.slice D ks.length d) ks.length (iR.flat ks)) ∧ Hid (Kept 0 0 w wr)) (fun _ i _ => t.length - (intOf i).toNat)
  case atStart => exact ⟨0, some ⟨w.heap.size, 0, none⟩, 0, [], Nat.zero_le _, rfl, rfl, Lib.hid (kidsTo_zero t n).symm, Lib.hid (own_emptyZ B1.out (Nat.le_refl _)), K1⟩
  case round =>
    clear B1 K1
    obtain ⟨k, D, d, ks, hk, rfl, rfl, HKS, HO, HK⟩ := hrel
    have z := HK.out.size
    by_cases hlt : k < t.length
    · obtain ⟨A', c', e', s'⟩ := H.out.kept (Nat.le_refl _) HK.out (.inl (Nat.le_refl _))
      injection e' with e1 _ e2
      subst e1 e2
      obtain ⟨ad, rfl, _, c0, c1, c2, c3, c4⟩ := s'.rd.nd hlt
      clear s'
      have i1 : (k : Int) < (t.length : Int) := by omega
      have HL : ks.length ≤ 60 := by rw [HKS.out]; have := kidsTo_len t n k; omega
      by_cases hu : t[k].up = n
      · have g : (t[k].up == n) = true := by simpa using hu
        have E : Hid (ks ++ [(k : Int)] = kidsTo t n (k + 1)) := by show _ = _; rw [kidsTo_succ t n hlt, if_pos hu, HKS.out]
        clear hu
        go_wp2_with (at_builtin; refine wpList_app (R := iR) rfl (.tmp 26) (.tmp 28) rfl HS.out w.heap.size D d ks rfl (row_kept HO.out (Kept.alloc0 wr (.cells #[.int .i64 k] 2))) (wr.heap.size + 1) (some ⟨wr.heap.size, 0, none⟩) 1 [(k : Int)] rfl (rd_litI wr k) (by simp [maxLen]; omega) (by simp; omega) (by simp; omega) ?_; intro D1 d1 w2 hown hgrow hat)
        have K2 := Lib.hid ((HK.out.alloc (.cells #[.int .i64 k] 2)).app hgrow (fun g hg => (own_row_lo HO.out g hg).1))
        have O2 := Lib.hid hown
        clear hown hgrow hat HO HK
        go_roundw
        case rel => exact ⟨k + 1, D1, d1, ks ++ [(k : Int)], by omega, by go_num, by simp, E, O2, K2⟩
        case measure => simp [intOf]; omega
      · have g : (t[k].up == n) = false := by simpa using hu
        have E : Hid (ks = kidsTo t n (k + 1)) := by show _ = _; rw [kidsTo_succ t n hlt, if_neg hu, HKS.out]
        clear hu
        go_wp2
        go_roundw
        case rel => exact ⟨k + 1, D, d, ks, by omega, by go_num, rfl, E, HO, HK⟩
        case measure => simp [intOf]; omega
    · go_wp2
      go_ret
      rw [EL.out, ← kidsTo_all t n (k := k) (by omega), ← HKS.out]
      exact ⟨_, rfl, ⟨D, d, rfl, OwnZ.of_row HO.out⟩, HK.out⟩

set_option maxHeartbeats 1600000 in
set_option maxRecDepth 100000 in
theorem chain5_any (t : List Nd) (n : Int) (v : Value) (w : World) (h : RdNd w w.heap.size v t) :
    Calls Try.prog 15 #[v, .int .i64 n] w fun e w' => ∃ u, e = .returned u ∧ OwnI w' w.heap.size w'.heap.size u (chainL t n) ∧ Kept 0 0 w w' := by
  have H := Lib.hid h
  obtain ⟨W, hW⟩ : ∃ W, W = w.alloc (.cells #[] 2) := ⟨_, rfl⟩
  have KW : Hid (Kept 0 0 w W) := by show Kept _ _ _ _; rw [hW]; exact Kept.alloc0 _ _
  have B0 : Hid (Blk W w.heap.size 2 #[]) := by show Blk _ _ _ _; rw [hW]; exact Blk.new _ _ _
  have CO := Lib.hid (has5_any t n v W (H.out.up KW.out))
  have HW := Lib.hid hW
  clear hW
  obtain ⟨A, c, rfl, h⟩ := h
  clear h
  have HS := Lib.hid iSlice
  cases q1 : hasB t n
  · have EL : Hid (chainL t n = []) := by show _ = _; simp [chainL, q1]
    rw [q1] at CO
    clear q1
    go_enter Try.func15, Try.ntmps15
    go_wp2_with fail
    rw [← HW.out]
    with_reducible refine CO.out.mono ?_
    rintro e w1 ⟨rfl, hk⟩
    have K1 := Lib.hid (KW.out.trans hk)
    have B1 := Lib.hid (B0.out.kept hk (.inl (Nat.le_refl _)))
    clear hk CO
    go_wp2
    go_ret
    rw [EL.out]
    exact ⟨_, rfl, ⟨_, 0, rfl, OwnZ.mk_ (own_emptyZ B1.out (Nat.le_refl _)) B1.out.lt⟩, K1.out⟩
  obtain ⟨o, n0, n1⟩ := hasB_true.1 q1
  have L : t.length ≤ 60 := o.len
  have OK := Lib.hid o
  have EL : Hid (chainL t n = chainOf t n) := by show _ = _; simp [chainL, q1]
  have HC := Lib.hid (chain_len o n1)
  rw [q1] at CO
  clear q1 o
  obtain ⟨m, rfl⟩ := Int.eq_ofNat_of_zero_le n0
  have hm : m < t.length := by omega
  clear n0 n1
  go_enter Try.func15, Try.ntmps15
  go_wp2_with fail
  rw [← HW.out]
  with_reducible refine CO.out.mono ?_
  rintro e w1 ⟨rfl, hk⟩
  have K1 := Lib.hid (KW.out.trans hk)
  have B1 := Lib.hid (B0.out.kept hk (.inl (Nat.le_refl _)))
  clear hk CO B0 KW HW
  go_wp2_with fail
  go_loopw [5, 6] (fun out i wr => ∃ (k : Nat) (D : Option Addr) (d : Nat) (ks : List Int), k < t.length ∧ i = .int .i64 k ∧ out = .slice D ks.length d ∧ Hid (chainOf t m = ks ++ chainOf t k) ∧ Hid (wr.ownsRow w.heap.size 2 1 (.slice D ks.length d) ks.length (iR.flat ks)) ∧ Hid (Kept 0 0 w wr)) (fun _ i _ => (intOf i).toNat)
  case atStart => exact ⟨m, some ⟨w.heap.size, 0, none⟩, 0, [], hm, rfl, rfl, Lib.hid rfl, Lib.hid (own_emptyZ B1.out (Nat.le_refl _)), K1⟩
  case round =>
    clear B1 K1
    obtain ⟨k, D, d, ks, hk, rfl, rfl, HKS, HO, HK⟩ := hrel
    have z := HK.out.size
    obtain ⟨A', c', e', s'⟩ := H.out.kept (Nat.le_refl _) HK.out (.inl (Nat.le_refl _))
    injection e' with e1 _ e2
    subst e1 e2
    have S := Lib.hid s'
    clear s'
    have i1 : (k : Int) < (t.length : Int) := by omega
    have HL : ks.length ≤ 60 := by have h1 := HC.out; rw [HKS.out, List.length_append] at h1; omega
    go_wp2_with (at_builtin; refine wpList_app (R := iR) rfl (.tmp 19) (.tmp 21) rfl HS.out w.heap.size D d ks rfl (row_kept HO.out (Kept.alloc0 wr (.cells #[.int .i64 k] 2))) (wr.heap.size + 1) (some ⟨wr.heap.size, 0, none⟩) 1 [(k : Int)] rfl (rd_litI wr k) (by simp [maxLen]; omega) (by simp; omega) (by simp; omega) ?_; intro D1 d1 w2 hown hgrow hat)
    have k2 := (Kept.alloc0 wr (.cells #[.int .i64 k] 2))
    have K2 := Lib.hid ((HK.out.alloc (.cells #[.int .i64 k] 2)).app hgrow (fun g hg => (own_row_lo HO.out g hg).1))
    have O2 := Lib.hid hown
    clear hown hgrow hat HO HK k2 S
    obtain ⟨A', c', e', s'⟩ := H.out.kept (Nat.le_refl _) K2.out (.inl (Nat.le_refl _))
    injection e' with e1 _ e2
    subst e1 e2
    obtain ⟨ad, rfl, _, c0, c1, c2, c3, c4⟩ := s'.rd.nd hk
    clear s'
    by_cases h0 : t[k].kind = 0
    · have g0 : (t[k].kind == 0) = true := by simpa using h0
      have E : Hid (chainOf t m = ks ++ [(k : Int)]) := by show _ = _; rw [HKS.out, chain_nat OK.out hk, if_pos (.inl h0)]
      clear h0
      go_wp2
      go_ret
      rw [EL.out, E.out]
      exact ⟨_, by simp, ⟨D1, d1, rfl, OwnZ.of_row O2.out⟩, K2.out⟩
    · have g0 : (t[k].kind == 0) = false := by simpa using h0
      by_cases h4 : t[k].kind = 4
      · have g4 : (t[k].kind == 4) = true := by simpa using h4
        have E : Hid (chainOf t m = ks ++ [(k : Int)]) := by show _ = _; rw [HKS.out, chain_nat OK.out hk, if_pos (.inr h4)]
        clear h0 h4
        go_wp2
        go_ret
        rw [EL.out, E.out]
        exact ⟨_, by simp, ⟨D1, d1, rfl, OwnZ.of_row O2.out⟩, K2.out⟩
      · have g4 : (t[k].kind == 4) = false := by simpa using h4
        have u := OK.out.up hk
        have hup : 0 ≤ t[k].up := by
          rcases Int.lt_or_le t[k].up 0 with h' | h'
          · exact absurd (u.2.2.2 (by omega)) h0
          · exact h'
        obtain ⟨j, hj⟩ := Int.eq_ofNat_of_zero_le hup
        have E : Hid (chainOf t m = (ks ++ [(k : Int)]) ++ chainOf t j) := by show _ = _; rw [HKS.out, chain_nat OK.out hk, if_neg (by simp [h0, h4]), hj]; simp
        have hj' : j < k := by omega
        rw [hj] at c1
        clear h0 h4 u hup hj
        go_wp2
        go_roundw
        case rel => exact ⟨j, D1, d1, ks ++ [(k : Int)], by omega, rfl, by simp, E, O2, K2⟩
        case measure => simp [intOf]; omega

theorem min5_any (a b : Int) (w : World) :
    Calls Try.prog 83 #[.int .i64 a, .int .i64 b] w fun e w' => e = .returned (.int .i64 (minI a b)) ∧ w = w' := by
  by_cases h : a < b
  · have E : Hid (minI a b = a) := by show _ = _; rw [minI, if_neg (by omega)]
    have g : decide (a < b) = true := by simpa using h
    go_enter Try.func83, Try.ntmps83
    go_wp2
    go_ret
    exact ⟨ret_int E.out.symm, rfl⟩
  · have E : Hid (minI a b = b) := by
      show _ = _
      unfold minI
      split <;> omega
    have g : decide (a < b) = false := by simpa using h
    go_enter Try.func83, Try.ntmps83
    go_wp2
    go_ret
    exact ⟨ret_int E.out.symm, rfl⟩
theorem chainL_mem {t : List Nd} {n : Int} {x : Int} (h : x ∈ chainL t n) : 0 ≤ x ∧ x < t.length := by
  unfold chainL at h
  split at h
  · rename_i q
    obtain ⟨o, n0, n1⟩ := hasB_true.1 q
    have := line_mem o t.length n n1 n1 x ((chain_line o t.length n n1 n1).1.subset h)
    omega
  · cases h
end Go.Proofs.Ytlfbmjfbebbdlaa
