/- The reference's l7Copy, SpreadOk, Begun and l7Below; no condition beyond that the slices can be read. -/
import Derived.Test.YtlfbmjfbebbdlaaWc
import Derived.Test.YtlfbmjfbebbdlaaNv
import Derived.Deep.RegionHeld3
namespace Go.Proofs.Ytlfbmjfbebbdlaa
open Go.RowKit Go.Sort

section
variable {w : World} {g : Nat} {ty : TypeId} {a b : Value}
theorem bs0 (h : Blk w g ty #[a, b]) : w.cell? ⟨g, 0, none⟩ = some a := h.cell 0
theorem bs1 (h : Blk w g ty #[a, b]) : w.cell? ⟨g, 1, none⟩ = some b := h.cell 1
end

set_option maxHeartbeats 6400000 in
set_option maxRecDepth 100000 in
theorem copy7_any (s : Spr) (v : Value) (w : World) (h : RdS w w.heap.size v s) (hn : s.told.length ≤ 1048576) (hn' : s.work.length ≤ 1048576) :
    Calls Try.prog 44 #[v] w fun e w' => ∃ u, e = .returned u ∧ OwnS w' w.heap.size w'.heap.size u s ∧ Kept 0 0 w w' := by
  obtain ⟨hv, lv, rfl, ⟨A1, c1, rfl, s2⟩, ⟨A2, c2, rfl, s3⟩⟩ := h
  obtain ⟨W, hW⟩ : ∃ W, W = (w.alloc (.cells #[.slice A1 s.told.length c1, .slice A2 s.work.length c2] 31)).alloc (.cells #[.slice none 0 0, .slice none 0 0] 31) := ⟨_, rfl⟩
  have KV : Hid (Kept 0 0 w W) := by show Kept _ _ _ _; rw [hW]; exact (Kept.alloc0 _ _).alloc _
  have B0 : Hid (Blk W w.heap.size 31 #[.slice A1 s.told.length c1, .slice A2 s.work.length c2]) := by show Blk _ _ _ _; rw [hW]; exact (Blk.new _ _ _).alloc _
  have R0 : Hid (Blk W (w.heap.size + 1) 31 #[.slice none 0 0, .slice none 0 0]) := by
    show Blk _ _ _ _
    rw [hW]
    have := Blk.new (w.alloc (.cells #[.slice A1 s.told.length c1, .slice A2 s.work.length c2] 31)) 31 #[.slice none 0 0, .slice none 0 0]
    simpa using this
  have zW : w.heap.size + 2 ≤ W.heap.size := by rw [hW]; simp
  have SH := Lib.hid (s2.kept (Nat.le_refl _) KV.out (.inl (Nat.le_refl _)))
  have SL := Lib.hid (s3.kept (Nat.le_refl _) KV.out (.inl (Nat.le_refl _)))
  have HT := Lib.hid bSlice
  have HI := Lib.hid iSlice
  have HW := Lib.hid hW
  clear s2 s3 hW
  go_enter Try.func44, Try.ntmps44
  go_wp2_with fail
  rw [← HW.out]
  go_region_held3 (fun w' => w'.cell? ⟨w.heap.size, 0, none⟩ = some (.slice A1 s.told.length c1) ∧ w'.cell? ⟨w.heap.size, 1, none⟩ = some (.slice A2 s.work.length c2))
    (first | with_reducible exact ⟨bs0 B0.out.drew, bs1 B0.out.drew⟩ | with_reducible exact ⟨bs0 (B0.out.alloc (.cells #[] 4)).drew, bs1 (B0.out.alloc (.cells #[] 4)).drew⟩ | with_reducible exact ⟨bs0 (B0.out.alloc (.cells #[] 2)).drew, bs1 (B0.out.alloc (.cells #[] 2)).drew⟩ | with_reducible exact ⟨bs0 ((B0.out.alloc (.cells #[] 4)).alloc (.cells #[] 2)).drew, bs1 ((B0.out.alloc (.cells #[] 4)).alloc (.cells #[] 2)).drew⟩ | with_reducible exact ⟨bs0 ((B0.out.alloc (.cells #[] 2)).alloc (.cells #[] 4)).drew, bs1 ((B0.out.alloc (.cells #[] 2)).alloc (.cells #[] 4)).drew⟩ | with_reducible exact ⟨bs0 B1, bs1 B1⟩ | with_reducible exact ⟨bs0 (B1.alloc (.cells #[] 2)), bs1 (B1.alloc (.cells #[] 2))⟩ | with_reducible exact ⟨bs0 B2, bs1 B2⟩ | with_reducible exact ⟨bs0 ((B2.far (by first | omega | (simp; done) | (simp; omega)) _).far (by first | omega | (simp; done) | (simp; omega)) _), bs1 ((B2.far (by first | omega | (simp; done) | (simp; omega)) _).far (by first | omega | (simp; done) | (simp; omega)) _)⟩ | with_reducible exact ⟨bs0 (B2.far (by first | omega | (simp; done) | (simp; omega)) _), bs1 (B2.far (by first | omega | (simp; done) | (simp; omega)) _)⟩)
    (first
      | (refine step_app (R := bR) rfl (.tmp 3) (.tmp 5) rfl HT.out W.heap.size (some ⟨W.heap.size, 0, none⟩) 0 [] rfl (own_emptyZ (Blk.drew (Blk.new W 4 #[])) (by first | exact Nat.le_refl _ | omega)) w.heap.size A1 c1 s.told rfl (by exact SH.out.rd.kept (by omega) (Kept.drew (Kept.alloc0 W _)) (.inl (Nat.le_refl _))) (by simp [maxLen]; omega) (by simp; omega) (by simp; try omega) ?_; intro D1 d1 w1 hown hgrow hat; have c1' : Kept (W.heap.size) (W.heap.size + 1) (W.alloc (.cells #[] 4)).drew w1 := kept_of_row hgrow; have k0 : Kept 0 0 W (W.alloc (.cells #[] 4)).drew := Kept.drew (Kept.alloc0 W _); have k1 : Kept 0 0 W w1 := k0.trans2 c1' (.inr (by first | exact Nat.le_refl _ | omega)); have z1 := k1.size; have O1 : OwnZ w1 W.heap.size w1.heap.size 4 1 D1 s.told.length d1 (bR.flat s.told) := OwnZ.of_row hown; have B1 := B0.out.kept k1 (.inl (Nat.le_refl _)); have R1 := R0.out.kept k1 (.inl (Nat.le_refl _)); clear hown hgrow hat)
      | (refine step_app (R := bR) rfl (.tmp 3) (.tmp 5) rfl HT.out W.heap.size (some ⟨W.heap.size, 0, none⟩) 0 [] rfl (own_emptyZ (Blk.drew ((Blk.new W 4 #[]).alloc (.cells #[] 2))) (by first | exact Nat.le_refl _ | omega)) w.heap.size A1 c1 s.told rfl (by exact SH.out.rd.kept (by omega) (Kept.drew ((Kept.alloc0 W _).alloc _)) (.inl (Nat.le_refl _))) (by simp [maxLen]; omega) (by simp; omega) (by simp; try omega) ?_; intro D1 d1 w1 hown hgrow hat; have c1' : Kept (W.heap.size) (W.heap.size + 1) ((W.alloc (.cells #[] 4)).alloc (.cells #[] 2)).drew w1 := kept_of_row hgrow; have k0 : Kept 0 0 W ((W.alloc (.cells #[] 4)).alloc (.cells #[] 2)).drew := Kept.drew ((Kept.alloc0 W _).alloc _); have k1 : Kept 0 0 W w1 := k0.trans2 c1' (.inr (by first | exact Nat.le_refl _ | omega)); have z1 := k1.size; have O1 : OwnZ w1 W.heap.size w1.heap.size 4 1 D1 s.told.length d1 (bR.flat s.told) := OwnZ.of_row hown; have X0 : Blk ((W.alloc (.cells #[] 4)).alloc (.cells #[] 2)) (W.heap.size + 1) 2 #[] := (by have := Blk.new (W.alloc (.cells #[] 4)) 2 #[]; simpa using this); have X1 : Blk w1 (W.heap.size + 1) 2 #[] := X0.drew.kept c1' (.inr (.inr (Nat.le_refl _))); have B1 := B0.out.kept k1 (.inl (Nat.le_refl _)); have R1 := R0.out.kept k1 (.inl (Nat.le_refl _)); clear hown hgrow hat)
      | (refine step_app (R := bR) rfl (.tmp 3) (.tmp 5) rfl HT.out W.heap.size (some ⟨W.heap.size + 1, 0, none⟩) 0 [] rfl (own_emptyZ (Blk.drew (show Blk ((W.alloc (.cells #[] 2)).alloc (.cells #[] 4)) (W.heap.size + 1) 4 #[] from (by have := Blk.new (W.alloc (.cells #[] 2)) 4 #[]; simpa using this))) (by first | exact Nat.le_refl _ | omega)) w.heap.size A1 c1 s.told rfl (by exact SH.out.rd.kept (by omega) (Kept.drew ((Kept.alloc0 W _).alloc _)) (.inl (Nat.le_refl _))) (by simp [maxLen]; omega) (by simp; omega) (by simp; try omega) ?_; intro D1 d1 w1 hown hgrow hat; have c1' : Kept (W.heap.size + 1) (W.heap.size + 1 + 1) ((W.alloc (.cells #[] 2)).alloc (.cells #[] 4)).drew w1 := kept_of_row hgrow; have k0 : Kept 0 0 W ((W.alloc (.cells #[] 2)).alloc (.cells #[] 4)).drew := Kept.drew ((Kept.alloc0 W _).alloc _); have k1 : Kept 0 0 W w1 := k0.trans2 c1' (.inr (by first | exact Nat.le_refl _ | omega)); have z1 := k1.size; have O1 : OwnZ w1 W.heap.size w1.heap.size 4 1 D1 s.told.length d1 (bR.flat s.told) := OwnZ.of_row hown; have X1 : Blk w1 W.heap.size 2 #[] := ((Blk.new W 2 #[]).alloc _).drew.kept c1' (.inr (.inl (Nat.lt_succ_self _))); have B1 := B0.out.kept k1 (.inl (Nat.le_refl _)); have R1 := R0.out.kept k1 (.inl (Nat.le_refl _)); clear hown hgrow hat)
      | (have XI : Blk w1 (W.heap.size + 1) 2 #[] := X1; refine step_app (R := iR) rfl (.tmp 7) (.tmp 9) rfl HI.out W.heap.size (some ⟨W.heap.size + 1, 0, none⟩) 0 [] rfl (own_emptyZ XI (by first | exact Nat.le_refl _ | omega)) w.heap.size A2 c2 s.work rfl (by exact SL.out.rd.kept (by omega) k1 (.inl (Nat.le_refl _))) (by simp [maxLen]; omega) (by simp; omega) z1 ?_; intro D2 d2 w2 hown hgrow hat; have c2' : Kept (W.heap.size + 1) (W.heap.size + 1 + 1) w1 w2 := kept_of_row hgrow; have k2 : Kept 0 0 W w2 := k1.trans2 c2' (.inr (by first | exact Nat.le_refl _ | omega)); have z2 := k2.size; have z12 : w1.heap.size ≤ w2.heap.size := c2'.size; have O2 : OwnZ w2 W.heap.size w2.heap.size 2 1 D2 s.work.length d2 (iR.flat s.work) := OwnZ.of_row hown; have P1 : OwnZ w2 W.heap.size w1.heap.size 4 1 D1 s.told.length d1 (bR.flat s.told) := OwnZ.other (OwnZ.mk_ (lo := W.heap.size) (hi := w1.heap.size) (own_emptyZ (size := 1) XI (by first | exact Nat.le_refl _ | omega)) XI.lt) O1 (by decide) c2'; have B2 := B0.out.kept k2 (.inl (Nat.le_refl _)); have R2 := R0.out.kept k2 (.inl (Nat.le_refl _)); have r0 := bs0 R2; have r1 := bs1 R2; have f0 := R2.frozen 0; have f1 := R2.frozen 1; clear hown hgrow hat)
      | (have XI : Blk w1 (W.heap.size) 2 #[] := X1; refine step_app (R := iR) rfl (.tmp 7) (.tmp 9) rfl HI.out W.heap.size (some ⟨W.heap.size, 0, none⟩) 0 [] rfl (own_emptyZ XI (by first | exact Nat.le_refl _ | omega)) w.heap.size A2 c2 s.work rfl (by exact SL.out.rd.kept (by omega) k1 (.inl (Nat.le_refl _))) (by simp [maxLen]; omega) (by simp; omega) z1 ?_; intro D2 d2 w2 hown hgrow hat; have c2' : Kept (W.heap.size) (W.heap.size + 1) w1 w2 := kept_of_row hgrow; have k2 : Kept 0 0 W w2 := k1.trans2 c2' (.inr (by first | exact Nat.le_refl _ | omega)); have z2 := k2.size; have z12 : w1.heap.size ≤ w2.heap.size := c2'.size; have O2 : OwnZ w2 W.heap.size w2.heap.size 2 1 D2 s.work.length d2 (iR.flat s.work) := OwnZ.of_row hown; have P1 : OwnZ w2 W.heap.size w1.heap.size 4 1 D1 s.told.length d1 (bR.flat s.told) := OwnZ.other (OwnZ.mk_ (lo := W.heap.size) (hi := w1.heap.size) (own_emptyZ (size := 1) XI (by first | exact Nat.le_refl _ | omega)) XI.lt) O1 (by decide) c2'; have B2 := B0.out.kept k2 (.inl (Nat.le_refl _)); have R2 := R0.out.kept k2 (.inl (Nat.le_refl _)); have r0 := bs0 R2; have r1 := bs1 R2; have f0 := R2.frozen 0; have f1 := R2.frozen 1; clear hown hgrow hat)
      | (refine step_app (R := iR) rfl (.tmp 7) (.tmp 9) rfl HI.out W.heap.size (some ⟨w1.heap.size, 0, none⟩) 0 [] rfl (own_emptyZ (Blk.new w1 2 #[]) z1) w.heap.size A2 c2 s.work rfl (by exact SL.out.rd.kept (by omega) (k1.alloc (.cells #[] 2)) (.inl (Nat.le_refl _))) (by simp [maxLen]; omega) (by simp; omega) (by simp; omega) ?_; intro D2 d2 w2 hown hgrow hat; have c2' : Kept w1.heap.size (w1.heap.size + 1) (w1.alloc (.cells #[] 2)) w2 := kept_of_row hgrow; have k2 : Kept 0 0 W w2 := (k1.alloc (.cells #[] 2)).trans2 c2' (.inr z1); have z2 := k2.size; have z12 : w1.heap.size ≤ w2.heap.size := Nat.le_trans (by simp) c2'.size; have O2 : OwnZ w2 W.heap.size w2.heap.size 2 1 D2 s.work.length d2 (iR.flat s.work) := OwnZ.of_row hown; have P1 : OwnZ w2 W.heap.size w1.heap.size 4 1 D1 s.told.length d1 (bR.flat s.told) := (O1.kept (Kept.alloc0 w1 (.cells #[] 2)) (.inl (Nat.le_refl _))).kept c2' (.inr (.inl (Nat.le_refl _))); have B2 := B0.out.kept k2 (.inl (Nat.le_refl _)); have R2 := R0.out.kept k2 (.inl (Nat.le_refl _)); have r0 := bs0 R2; have r1 := bs1 R2; have f0 := R2.frozen 0; have f1 := R2.frozen 1; clear hown hgrow hat)
      | fail)
  all_goals (obtain ⟨F, hF⟩ : ∃ F, F = (w2.setCell ⟨w.heap.size + 1, 0, none⟩ (.slice D1 s.told.length d1)).setCell ⟨w.heap.size + 1, 1, none⟩ (.slice D2 s.work.length d2) := ⟨_, rfl⟩)
  all_goals (have BF : Blk F (w.heap.size + 1) 31 #[.slice D1 s.told.length d1, .slice D2 s.work.length d2] := by rw [hF]; exact (R2.set_ 0 _).set_ 1 _)
  all_goals (have KF : Kept (w.heap.size + 1) (w.heap.size + 2) w2 F := by rw [hF]; exact ((Kept.refl (w.heap.size + 1) (w.heap.size + 2) w2).setCell (.inr ⟨Nat.le_refl _, Nat.lt_succ_self _⟩) _).setCell (.inr ⟨Nat.le_refl _, Nat.lt_succ_self _⟩) _)
  all_goals (have F0 := bs0 BF; have F1 := bs1 BF; have q1 := KF.size)
  all_goals (have HF := Lib.hid hF; clear hF r0 r1 f0 f1)
  all_goals go_wp2_with fail
  all_goals rw [← HF.out]
  all_goals refine bodyPost_ret (v := .agg #[.slice D1 s.told.length d1, .slice D2 s.work.length d2]) (by simp [results, Try.results44, go_sem, F0, F1]) rfl ⟨_, rfl, ⟨_, _, rfl, ⟨D1, d1, rfl, (P1.kept KF (.inr (.inr (by first | omega | (simp; omega))))).wide (by first | omega | (simp; omega)) (by omega)⟩, ⟨D2, d2, rfl, (O2.kept KF (.inr (.inr (by omega)))).wide (by omega) q1⟩⟩, (KV.out.trans k2).trans2 KF (.inr (by omega))⟩

set_option maxHeartbeats 1600000 in
theorem ok7_any (t : List Nd) (s : Spr) (v u : Value) (w : World) (h : RdNd w w.heap.size v t) (h' : RdS w w.heap.size u s) :
    Calls Try.prog 19 #[v, u] w fun e w' => e = .returned (.bool (spreadB t s)) ∧ Kept 0 0 w w' := by
  have hm := h.len
  unfold maxLen at hm
  have HT := Lib.hid h
  obtain ⟨A, c, rfl, h⟩ := h
  clear h
  obtain ⟨hv, lv, rfl, ⟨A1, c1, rfl, s1⟩, ⟨A2, c2, rfl, s2⟩⟩ := h'
  have m1 := s1.rd.1
  have m2 := s2.rd.1
  unfold maxLen at m1 m2
  have S2 := Lib.hid s2.rd
  obtain ⟨W, hW⟩ : ∃ W, W = w.alloc (.cells #[.slice A1 s.told.length c1, .slice A2 s.work.length c2] 31) := ⟨_, rfl⟩
  have KW : Hid (Kept 0 0 w W) := by show Kept _ _ _ _; rw [hW]; exact Kept.alloc0 _ _
  have B0 : Hid (Blk W w.heap.size 31 #[.slice A1 s.told.length c1, .slice A2 s.work.length c2]) := by show Blk _ _ _ _; rw [hW]; exact Blk.new _ _ _
  have CO := Lib.hid (tree5_any t _ W (HT.out.up KW.out))
  have HW := Lib.hid hW
  clear hW s1 s2
  go_enter Try.func19, Try.ntmps19
  go_wp2_with fail
  rw [← HW.out]
  with_reducible refine CO.out.mono ?_
  rintro e w1 ⟨rfl, hk⟩
  have K1 := Lib.hid (KW.out.trans hk)
  have B1 := Lib.hid (B0.out.kept hk (.inl (Nat.le_refl _)))
  clear hk CO KW B0 HW
  cases q1 : treeB t
  · have E : Hid (spreadB t s = false) := not_spr_tree q1
    clear q1
    go_wp2
    go_ret
    exact ⟨ret_bool E.out.symm, K1.out⟩
  have HP := Lib.hid (treeB_true.1 q1)
  clear q1
  have b0 := bs0 B1.out
  have b1 := bs1 B1.out
  by_cases h1 : s.told.length = t.length
  · have g1 : ((s.told.length : Int) != (t.length : Int)) = false := by simp [h1]
    have H1 := Lib.hid h1
    clear h1
    rcases Nat.lt_or_ge 240 s.work.length with h2 | h2
    · have E : Hid (spreadB t s = false) := not_spr_cap h2
      have g2 : decide ((240 : Int) < (s.work.length : Int)) = true := by simp; omega
      clear h2
      go_wp2
      go_ret
      exact ⟨ret_bool E.out.symm, K1.out⟩
    have g2 : decide ((240 : Int) < (s.work.length : Int)) = false := by simp; omega
    go_wp2
    clear b0 b1
    go_loopw [5] (fun i wr => ∃ k : Nat, k ≤ s.work.length ∧ i = .int .i64 k ∧ Hid (PreW t s k) ∧ Hid (Kept 0 0 w1 wr)) (fun i _ => s.work.length - (intOf i).toNat)
    case atStart => exact ⟨0, Nat.zero_le _, rfl, Lib.hid (PreW.zero t s), Lib.hid (Kept.refl _ _ _)⟩
    case round =>
      obtain ⟨k, hk, rfl, HPW, HK⟩ := hrel
      have b1 := bs1 (B1.out.kept HK.out (.inl (Nat.le_refl _)))
      by_cases hlt : k < s.work.length
      · obtain ⟨ad, rfl, _, c0⟩ := ((S2.out.kept (Nat.le_refl _) K1.out (.inl (Nat.le_refl _))).kept K1.out.size HK.out (.inl (Nat.le_refl _))).i hlt
        have i1 : (k : Int) < (s.work.length : Int) := by omega
        go_wp2_with fail
        with_reducible refine (l1In_any _ _ _ _).mono ?_
        rintro e w' ⟨rfl, rfl⟩
        clear c0 b1
        cases q2 : (decide (0 ≤ s.work[k]) && decide (s.work[k] ≤ (t.length : Int) - 1))
        · have E : Hid (spreadB t s = false) := not_spr_work hlt q2
          clear q2
          go_wp2
          go_ret
          exact ⟨ret_bool E.out.symm, K1.out.trans HK.out⟩
        · have HP2 : Hid (PreW t s (k + 1)) := by
            simp only [Bool.and_eq_true, decide_eq_true_eq] at q2
            exact HPW.out.succ hlt q2.1 (by omega)
          clear q2 HPW
          go_wp2
          go_roundw
          case rel => exact ⟨k + 1, by omega, by go_num, HP2, HK⟩
          case measure => simp [intOf]; omega
      · go_wp2
        go_ret
        exact ⟨ret_bool (HPW.out.all HP.out H1.out h2 (by omega)).symm, K1.out.trans HK.out⟩
  · have E : Hid (spreadB t s = false) := not_spr_told h1
    have g1 : ((s.told.length : Int) != (t.length : Int)) = true := by simp; omega
    clear h1
    go_wp2
    go_ret
    exact ⟨ret_bool E.out.symm, K1.out⟩

set_option maxHeartbeats 1600000 in
set_option maxRecDepth 100000 in
theorem below7_any (t : List Nd) (n : Int) (v : Value) (w : World) (h : RdNd w w.heap.size v t) :
    Calls Try.prog 45 #[v, .int .i64 n] w fun e w' => ∃ z, e = .returned z ∧ OwnI w' w.heap.size w'.heap.size z (belowL t n) ∧ Kept 0 0 w w' := by
  have HT := Lib.hid h
  obtain ⟨W, hW⟩ : ∃ W, W = w.alloc (.cells #[] 2) := ⟨_, rfl⟩
  have KW : Hid (Kept 0 0 w W) := by show Kept _ _ _ _; rw [hW]; exact Kept.alloc0 _ _
  have B0 : Hid (Blk W w.heap.size 2 #[]) := by show Blk _ _ _ _; rw [hW]; exact Blk.new _ _ _
  have CO := Lib.hid (kids5_any t n v W (HT.out.up KW.out))
  have HW := Lib.hid hW
  have zW : W.heap.size = w.heap.size + 1 := by rw [hW]; simp
  clear hW
  obtain ⟨A, c, rfl, h⟩ := h
  have hm := h.rd.1
  unfold maxLen at hm
  clear h
  have HS := Lib.hid iSlice
  have L := kidsL_len t n
  go_enter Try.func45, Try.ntmps45
  go_wp2_with fail
  rw [← HW.out]
  with_reducible refine CO.out.mono ?_
  rintro e w1 ⟨u1, rfl, ho, hk⟩
  obtain ⟨D1, d1, rfl, o1⟩ := ho
  have O1 := Lib.hid o1
  have K1 := Lib.hid (KW.out.trans hk)
  have B1 := Lib.hid (B0.out.kept hk (.inl (Nat.le_refl _)))
  have z1 := hk.size
  clear hk CO KW B0 HW o1
  go_wp2_with fail
  go_loopw [5, 7] (fun out i wr => ∃ (k g : Nat) (d : Nat) (ks : List Int), k ≤ (kidsL t n).length ∧ i = .int .i64 k ∧ out = .slice (some ⟨g, 0, none⟩) ks.length d ∧ Hid (ks = belowTo t n k) ∧ Hid (wr.ownsRow w.heap.size 2 1 (.slice (some ⟨g, 0, none⟩) ks.length d) ks.length (iR.flat ks)) ∧ Hid (Kept 0 0 w wr) ∧ Hid (OwnZ wr W.heap.size w1.heap.size 2 1 D1 (kidsL t n).length d1 (iR.flat (kidsL t n))) ∧ Hid ((g = w.heap.size ∨ w1.heap.size ≤ g) ∧ w1.heap.size ≤ wr.heap.size)) (fun _ i _ => (kidsL t n).length - (intOf i).toNat)
  case atStart => exact ⟨0, w.heap.size, 0, [], Nat.zero_le _, rfl, rfl, Lib.hid (belowTo_zero t n).symm, Lib.hid (own_emptyZ B1.out (Nat.le_refl _)), K1, O1, Lib.hid ⟨.inl rfl, Nat.le_refl _⟩⟩
  case round =>
    clear B1 K1 O1
    obtain ⟨k, g, d, ks, hk, rfl, rfl, HKS, HO, HK, HL, HG⟩ := hrel
    have z := HK.out.size
    by_cases hlt : k < (kidsL t n).length
    · have i1 : (k : Int) < ((kidsL t n).length : Int) := by omega
      obtain ⟨ad, rfl, _, c0⟩ := HL.out.rd.2.i hlt
      obtain ⟨x, hx⟩ : ∃ x, x = (kidsL t n)[k] := ⟨_, rfl⟩
      have HX := Lib.hid hx
      obtain ⟨_, j, hj, e, _⟩ := kidsL_mem.1 (hx ▸ List.getElem_mem hlt)
      rw [← hx] at c0
      clear hx
      subst e
      obtain ⟨A', c', e', s'⟩ := HT.out.kept (Nat.le_refl _) HK.out (.inl (Nat.le_refl _))
      injection e' with e1 _ e2
      subst e1 e2
      obtain ⟨ad', rfl, _, c1, _, _, _, _⟩ := s'.rd.nd hj
      clear s'
      have i2 : (j : Int) < (t.length : Int) := by omega
      have HB : ks.length ≤ 60 := by rw [HKS.out]; exact belowTo_len t n k
      by_cases h4 : t[j].kind = 4
      · have E : Hid (ks = belowTo t n (k + 1)) := by show _ = _; rw [belowTo_succ t n hlt, ← HX.out, ndAt_nat t hj, if_pos h4]; exact HKS.out
        have g1 : (t[j].kind != 4) = false := by simp [h4]
        clear h4
        go_wp2
        go_roundw
        case rel => exact ⟨k + 1, g, d, ks, by omega, by go_num, rfl, E, HO, HK, HL, HG⟩
        case measure => simp [intOf]; omega
      · have E : Hid (ks ++ [(j : Int)] = belowTo t n (k + 1)) := by show _ = _; rw [belowTo_succ t n hlt, ← HX.out, ndAt_nat t hj, if_neg h4, HKS.out]
        have g1 : (t[j].kind != 4) = true := by simpa using h4
        clear h4
        go_wp2_with (at_builtin; refine wpList_app (R := iR) rfl (.tmp 27) (.tmp 32) rfl HS.out w.heap.size (some ⟨g, 0, none⟩) d ks rfl (row_kept HO.out (Kept.alloc0 wr (.cells #[.int .i64 j] 2))) (wr.heap.size + 1) (some ⟨wr.heap.size, 0, none⟩) 1 [(j : Int)] rfl (rd_litI wr j) (by simp [maxLen]; omega) (by simp; omega) (by simp; omega) ?_; intro D1' d1' w3 hown hgrow hat)
        have K3 := Lib.hid ((HK.out.alloc (.cells #[.int .i64 j] 2)).app hgrow (fun g hg => (own_row_lo HO.out g hg).1))
        have O3 := Lib.hid hown
        have z3 := (kept_of_row hgrow).size
        have L3 := Lib.hid ((HL.out.kept (Kept.alloc0 wr (.cells #[.int .i64 j] 2)) (.inl (Nat.le_refl _))).kept (show Kept g (g + 1) _ _ from kept_of_row hgrow) (by rcases HG.out.1 with h | h; exact .inr (.inr (by omega)); exact .inr (.inl h)))
        rcases (OwnZ.of_row hown).form with ⟨_, h0, _⟩ | ⟨g', e, _⟩
        · simp at h0
        subst e
        have G3 : Hid ((g' = w.heap.size ∨ w1.heap.size ≤ g') ∧ w1.heap.size ≤ w3.heap.size) := by
          have hg := HG.out
          simp only [World.size_alloc] at z3
          refine ⟨?_, by omega⟩
          rcases hat with h | h
          · injection h with h
            simp only at h
            rcases hg.1 with h' | h' <;> omega
          · injection h with h
            simp only [World.size_alloc] at h
            omega
        clear hown hgrow hat z3
        go_roundw
        case rel => exact ⟨k + 1, g', d1', ks ++ [(j : Int)], by omega, by go_num, by simp, E, O3, K3, L3, G3⟩
        case measure => simp [intOf]; omega
    · go_wp2
      go_ret
      have hk' : (kidsL t n).length ≤ k := by omega
      rw [← belowTo_all t n hk', ← HKS.out]
      exact ⟨_, rfl, ⟨_, d, rfl, OwnZ.of_row HO.out⟩, HK.out⟩
end Go.Proofs.Ytlfbmjfbebbdlaa
