/- The reference's ParkedOn, ReadyIn and Woken; no condition beyond that the slice can be read. -/
import Derived.Test.YtfpnpjpcjbndoaaIb
import Derived.Test.YtfpnpjpcjbndoaaHd
namespace Go.Proofs.Ytfpnpjpcjbndoaa
open Go.RowKit Go.Sort

theorem own_litJ (w : World) (x : Int) : (w.alloc (.cells #[.int .i64 x] 2)).ownsRow w.heap.size 2 1 (.slice (some ⟨w.heap.size, 0, none⟩) 1 1) 1 (iR.flat [x]) :=
  World.ownsRow_lit w #[.int .i64 x] 1 (Nat.le_refl _) (by unfold maxLen; omega) rfl
theorem rd_litJ (w : World) (x : Int) : RdR iR (w.alloc (.cells #[.int .i64 x] 2)) (w.heap.size + 1) (some ⟨w.heap.size, 0, none⟩) [x] := by
  have := (OwnZ.rd (R := iR) (OwnZ.of_row (own_litJ w x))).2
  simpa using this

set_option maxHeartbeats 1600000 in
theorem parked11_any (l : List Tk) (y h : Int) (v : Value) (w : World) (h0 : RdTk w w.heap.size v l) :
    Calls Try.prog 15 #[v, .int .i64 y, .int .i64 h] w fun e w' => ∃ u, e = .returned u ∧ OwnI w' w.heap.size w'.heap.size u (parkedL l y h) ∧ Kept 0 0 w w' := by
  have H := Lib.hid h0
  obtain ⟨W, hW⟩ : ∃ W, W = w.alloc (.cells #[] 2) := ⟨_, rfl⟩
  have KW : Hid (Kept 0 0 w W) := by show Kept _ _ _ _; rw [hW]; exact Kept.alloc0 _ _
  have B0 : Hid (Blk W w.heap.size 2 #[]) := by show Blk _ _ _ _; rw [hW]; exact Blk.new _ _ _
  have CO := Lib.hid (tasks11_any l v W (H.out.up KW.out))
  have HW := Lib.hid hW
  clear hW
  obtain ⟨A, c, rfl, h1⟩ := h0
  clear h1
  have HS := Lib.hid iSlice
  cases q1 : tasksB l
  · have EL : Hid (parkedL l y h = []) := by show _ = _; simp [parkedL, q1]
    rw [q1] at CO
    clear q1
    go_enter Try.func15, Try.ntmps15
    go_wp2_with fail
    rw [← HW.out]
    with_reducible refine CO.out.mono ?_
    rintro e w1 ⟨rfl, hk⟩
    have K1 := Lib.hid (KW.out.trans hk)
    have B1 := Lib.hid (B0.out.kept hk (.inl (Nat.le_refl _)))
    clear hk CO
    go_wp2
    go_ret
    rw [EL.out]
    exact ⟨_, rfl, ⟨_, 0, rfl, OwnZ.mk_ (own_emptyZ B1.out (Nat.le_refl _)) B1.out.lt⟩, K1.out⟩
  have L : l.length ≤ 60 := (tasksB_iff.1 q1).2
  have EL : Hid (parkedL l y h = idxs (isPk y h) 0 l) := by show _ = _; simp [parkedL, q1]
  rw [q1] at CO
  clear q1
  go_enter Try.func15, Try.ntmps15
  go_wp2_with fail
  rw [← HW.out]
  with_reducible refine CO.out.mono ?_
  rintro e w1 ⟨rfl, hk⟩
  have K1 := Lib.hid (KW.out.trans hk)
  have B1 := Lib.hid (B0.out.kept hk (.inl (Nat.le_refl _)))
  clear hk CO B0 KW HW
  go_wp2_with fail
  go_loopw [7, 8] (fun out i wr => ∃ (k : Nat) (D : Option Addr) (d : Nat) (ks : List Int), k ≤ l.length ∧ i = .int .i64 k ∧ out = .slice D ks.length d ∧ Hid (ks = idxTo (isPk y h) l k) ∧ Hid (wr.ownsRow w.heap.size 2 1 (.slice D ks.length d) ks.length (iR.flat ks)) ∧ Hid (Kept 0 0 w wr)) (fun _ i _ => l.length - (intOf i).toNat)
  case atStart => exact ⟨0, some ⟨w.heap.size, 0, none⟩, 0, [], Nat.zero_le _, rfl, rfl, Lib.hid (idxTo_zero _ l).symm, Lib.hid (own_emptyZ B1.out (Nat.le_refl _)), K1⟩
  case round =>
    clear B1 K1
    obtain ⟨k, D, d, ks, hk, rfl, rfl, HKS, HO, HK⟩ := hrel
    have z := HK.out.size
    by_cases hlt : k < l.length
    · obtain ⟨A', c', e', s'⟩ := H.out.kept (Nat.le_refl _) HK.out (.inl (Nat.le_refl _))
      injection e' with e1 _ e2
      subst e1 e2
      obtain ⟨ad, rfl, _, c0, c1, c2, c3, c4, c5, c6, c7, c8⟩ := s'.rd.tk hlt
      clear s' c0 c1 c5 c6 c7 c8
      have i1 : (k : Int) < (l.length : Int) := by omega
      have HL : ks.length ≤ 60 := by rw [HKS.out]; have := idxTo_len (isPk y h) l k; omega
      have EN : Hid ((isPk y h) l[k] = false → ks = idxTo (isPk y h) l (k + 1)) := fun q => by rw [idxTo_succ _ l hlt, if_neg (by rw [q]; decide), HKS.out]
      have EY : Hid ((isPk y h) l[k] = true → ks ++ [(k : Int)] = idxTo (isPk y h) l (k + 1)) := fun q => by rw [idxTo_succ _ l hlt, if_pos q, HKS.out]
      by_cases h1 : l[k].st = 1
      case neg =>
        have g : (l[k].st == 1) = false := by simpa using h1
        have E := Lib.hid (EN.out (by simp [isPk, h1]))
        go_wp2_with fail
        go_roundw
        case rel => exact ⟨k + 1, D, d, ks, by omega, by go_num, rfl, E, HO, HK⟩
        case measure => simp [intOf]; omega
      have gh1 : (l[k].st == 1) = true := by simpa using h1
      by_cases h2 : l[k].why = y
      case neg =>
        have g : (l[k].why == y) = false := by simpa using h2
        have E := Lib.hid (EN.out (by simp [isPk, h2]))
        go_wp2_with fail
        go_roundw
        case rel => exact ⟨k + 1, D, d, ks, by omega, by go_num, rfl, E, HO, HK⟩
        case measure => simp [intOf]; omega
      have gh2 : (l[k].why == y) = true := by simpa using h2
      by_cases h3 : l[k].what = h
      case neg =>
        have g : (l[k].what == h) = false := by simpa using h3
        have E := Lib.hid (EN.out (by simp [isPk, h3]))
        go_wp2_with fail
        go_roundw
        case rel => exact ⟨k + 1, D, d, ks, by omega, by go_num, rfl, E, HO, HK⟩
        case measure => simp [intOf]; omega
      have gh3 : (l[k].what == h) = true := by simpa using h3
      have E := Lib.hid (EY.out (by simp [isPk, h1, h2, h3]))
      go_wp2_with (at_builtin; refine wpList_app (R := iR) rfl (.tmp 44) (.tmp 46) rfl HS.out w.heap.size D d ks rfl (row_kept HO.out (Kept.alloc0 wr (.cells #[.int .i64 k] 2))) (wr.heap.size + 1) (some ⟨wr.heap.size, 0, none⟩) 1 [(k : Int)] rfl (rd_litJ wr k) (by simp [maxLen]; omega) (by simp; omega) (by simp; omega) ?_; intro D1 d1 w2 hown hgrow hat)
      have K2 := Lib.hid ((HK.out.alloc (.cells #[.int .i64 k] 2)).app hgrow (fun g hg => (own_row_lo HO.out g hg).1))
      have O2 := Lib.hid hown
      clear hown hgrow hat HO HK
      go_roundw
      case rel => exact ⟨k + 1, D1, d1, ks ++ [(k : Int)], by omega, by go_num, by simp, E, O2, K2⟩
      case measure => simp [intOf]; omega
    · go_wp2
      go_ret
      rw [EL.out, ← idxTo_all _ l (k := k) (by omega), ← HKS.out]
      exact ⟨_, rfl, ⟨D, d, rfl, OwnZ.of_row HO.out⟩, HK.out⟩

set_option maxHeartbeats 1600000 in
theorem ready11_any (l : List Tk) (v : Value) (w : World) (h0 : RdTk w w.heap.size v l) :
    Calls Try.prog 27 #[v] w fun e w' => ∃ u, e = .returned u ∧ OwnI w' w.heap.size w'.heap.size u (readyL l) ∧ Kept 0 0 w w' := by
  have H := Lib.hid h0
  obtain ⟨W, hW⟩ : ∃ W, W = w.alloc (.cells #[] 2) := ⟨_, rfl⟩
  have KW : Hid (Kept 0 0 w W) := by show Kept _ _ _ _; rw [hW]; exact Kept.alloc0 _ _
  have B0 : Hid (Blk W w.heap.size 2 #[]) := by show Blk _ _ _ _; rw [hW]; exact Blk.new _ _ _
  have CO := Lib.hid (tasks11_any l v W (H.out.up KW.out))
  have HW := Lib.hid hW
  clear hW
  obtain ⟨A, c, rfl, h1⟩ := h0
  clear h1
  have HS := Lib.hid iSlice
  cases q1 : tasksB l
  · have EL : Hid (readyL l = []) := by show _ = _; simp [readyL, q1]
    rw [q1] at CO
    clear q1
    go_enter Try.func27, Try.ntmps27
    go_wp2_with fail
    rw [← HW.out]
    with_reducible refine CO.out.mono ?_
    rintro e w1 ⟨rfl, hk⟩
    have K1 := Lib.hid (KW.out.trans hk)
    have B1 := Lib.hid (B0.out.kept hk (.inl (Nat.le_refl _)))
    clear hk CO
    go_wp2
    go_ret
    rw [EL.out]
    exact ⟨_, rfl, ⟨_, 0, rfl, OwnZ.mk_ (own_emptyZ B1.out (Nat.le_refl _)) B1.out.lt⟩, K1.out⟩
  have L : l.length ≤ 60 := (tasksB_iff.1 q1).2
  have EL : Hid (readyL l = idxs (isRdy) 0 l) := by show _ = _; simp [readyL, q1]
  rw [q1] at CO
  clear q1
  go_enter Try.func27, Try.ntmps27
  go_wp2_with fail
  rw [← HW.out]
  with_reducible refine CO.out.mono ?_
  rintro e w1 ⟨rfl, hk⟩
  have K1 := Lib.hid (KW.out.trans hk)
  have B1 := Lib.hid (B0.out.kept hk (.inl (Nat.le_refl _)))
  clear hk CO B0 KW HW
  go_wp2_with fail
  go_loopw [3, 4] (fun out i wr => ∃ (k : Nat) (D : Option Addr) (d : Nat) (ks : List Int), k ≤ l.length ∧ i = .int .i64 k ∧ out = .slice D ks.length d ∧ Hid (ks = idxTo (isRdy) l k) ∧ Hid (wr.ownsRow w.heap.size 2 1 (.slice D ks.length d) ks.length (iR.flat ks)) ∧ Hid (Kept 0 0 w wr)) (fun _ i _ => l.length - (intOf i).toNat)
  case atStart => exact ⟨0, some ⟨w.heap.size, 0, none⟩, 0, [], Nat.zero_le _, rfl, rfl, Lib.hid (idxTo_zero _ l).symm, Lib.hid (own_emptyZ B1.out (Nat.le_refl _)), K1⟩
  case round =>
    clear B1 K1
    obtain ⟨k, D, d, ks, hk, rfl, rfl, HKS, HO, HK⟩ := hrel
    have z := HK.out.size
    by_cases hlt : k < l.length
    · obtain ⟨A', c', e', s'⟩ := H.out.kept (Nat.le_refl _) HK.out (.inl (Nat.le_refl _))
      injection e' with e1 _ e2
      subst e1 e2
      obtain ⟨ad, rfl, _, c0, c1, c2, c3, c4, c5, c6, c7, c8⟩ := s'.rd.tk hlt
      clear s' c0 c1 c5 c6 c7 c8
      have i1 : (k : Int) < (l.length : Int) := by omega
      have HL : ks.length ≤ 60 := by rw [HKS.out]; have := idxTo_len (isRdy) l k; omega
      have EN : Hid ((isRdy) l[k] = false → ks = idxTo (isRdy) l (k + 1)) := fun q => by rw [idxTo_succ _ l hlt, if_neg (by rw [q]; decide), HKS.out]
      have EY : Hid ((isRdy) l[k] = true → ks ++ [(k : Int)] = idxTo (isRdy) l (k + 1)) := fun q => by rw [idxTo_succ _ l hlt, if_pos q, HKS.out]
      by_cases h1 : l[k].st = 0
      case neg =>
        have g : (l[k].st == 0) = false := by simpa using h1
        have E := Lib.hid (EN.out (by simp [isRdy, h1]))
        go_wp2_with fail
        go_roundw
        case rel => exact ⟨k + 1, D, d, ks, by omega, by go_num, rfl, E, HO, HK⟩
        case measure => simp [intOf]; omega
      have gh1 : (l[k].st == 0) = true := by simpa using h1
      have E := Lib.hid (EY.out (by simp [isRdy, h1]))
      go_wp2_with (at_builtin; refine wpList_app (R := iR) rfl (.tmp 22) (.tmp 24) rfl HS.out w.heap.size D d ks rfl (row_kept HO.out (Kept.alloc0 wr (.cells #[.int .i64 k] 2))) (wr.heap.size + 1) (some ⟨wr.heap.size, 0, none⟩) 1 [(k : Int)] rfl (rd_litJ wr k) (by simp [maxLen]; omega) (by simp; omega) (by simp; omega) ?_; intro D1 d1 w2 hown hgrow hat)
      have K2 := Lib.hid ((HK.out.alloc (.cells #[.int .i64 k] 2)).app hgrow (fun g hg => (own_row_lo HO.out g hg).1))
      have O2 := Lib.hid hown
      clear hown hgrow hat HO HK
      go_roundw
      case rel => exact ⟨k + 1, D1, d1, ks ++ [(k : Int)], by omega, by go_num, by simp, E, O2, K2⟩
      case measure => simp [intOf]; omega
    · go_wp2
      go_ret
      rw [EL.out, ← idxTo_all _ l (k := k) (by omega), ← HKS.out]
      exact ⟨_, rfl, ⟨D, d, rfl, OwnZ.of_row HO.out⟩, HK.out⟩
end Go.Proofs.Ytfpnpjpcjbndoaa
