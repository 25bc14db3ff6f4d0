/- The reference's Forgotten; no condition beyond that the timers can be read. -/
import Derived.Test.YtnphjohmkjoefaaTt
import Derived.Deep.RegionLaw
namespace Go.Proofs.Ytnphjohmkjoefaa
open Go.RowKit Go.Sort

noncomputable def forgetT (t : Tms) (q : Int) : Tms := match atL t.list q with
  | none => t
  | some k => ⟨withoutL t.heap q, t.list.take k ++ t.list.drop (k + 1), t.next⟩
noncomputable def forgetL (t : Tms) (q : Int) : Tms := if timersOkB t then forgetT t q else zeroT
noncomputable def forgetB (t : Tms) (q : Int) : Bool := timersOkB t && (atL t.list q).isSome

/-- Behind the taking out: the timers' box with the new list. -/
def ForgSt (w w1 w3 : World) (b : Nat) (D1 : Option Addr) (d1 : Nat) (hp : List Tw) (ls : List Tm) (next : Int) (wx : World) : Prop :=
  ∃ (D6 : Option Addr) (d6 : Nat), Blk wx b 27 #[.slice D1 hp.length d1, .slice D6 ls.length d6, .int .i64 next] ∧ Blk wx (w.heap.size + 1) 27 #[.slice none 0 0, .slice none 0 0, .int .i64 0] ∧
    wx.ownsRow w3.heap.size 50 5 (.slice D6 ls.length d6) ls.length (tmR.flat ls) ∧ OwnZ wx w1.heap.size b 77 3 D1 hp.length d1 (twR.flat hp) ∧ Kept 0 0 w wx ∧ w3.heap.size ≤ wx.heap.size
set_option maxHeartbeats 6400000 in
set_option maxRecDepth 100000 in
theorem forget4_any : DoesMI 9 forgetL forgetB := by
  intro t q v w h
  have H := Lib.hid h
  obtain ⟨hv, lv, rfl, ⟨A1, c1, rfl, s2⟩, ⟨A2, c2, rfl, s3⟩⟩ := h
  have m2 := s3.rd.1
  unfold maxLen at m2
  obtain ⟨W, hW⟩ : ∃ W, W = (w.alloc (.cells #[.slice A1 t.heap.length c1, .slice A2 t.list.length c2, .int .i64 t.next] 27)).alloc (.cells #[.slice none 0 0, .slice none 0 0, .int .i64 0] 27) := ⟨_, rfl⟩
  have KV : Hid (Kept 0 0 w W) := by show Kept _ _ _ _; rw [hW]; exact (Kept.alloc0 _ _).alloc _
  have B0 : Hid (Blk W w.heap.size 27 #[.slice A1 t.heap.length c1, .slice A2 t.list.length c2, .int .i64 t.next]) := by show Blk _ _ _ _; rw [hW]; exact (Blk.new _ _ _).alloc _
  have R0 : Hid (Blk W (w.heap.size + 1) 27 #[.slice none 0 0, .slice none 0 0, .int .i64 0]) := by show Blk _ _ _ _; rw [hW]; exact blk2_new _ _ _ _
  have zW : w.heap.size + 2 ≤ W.heap.size := by rw [hW]; simp
  have CO := Lib.hid (ok4_any t _ W (H.out.up KV.out))
  have HW := Lib.hid hW
  have S3 := Lib.hid s3
  have S2 := Lib.hid s2
  clear s2 s3 hW
  go_enter Try.func9, Try.ntmps9
  go_wp2_with fail
  rw [← HW.out]
  with_reducible refine CO.out.mono ?_
  rintro e w1 ⟨rfl, hk⟩
  have K1 := Lib.hid (KV.out.trans hk)
  have B1 := Lib.hid (B0.out.kept hk (.inl (Nat.le_refl _)))
  have R1 := Lib.hid (R0.out.kept hk (.inl (Nat.le_refl _)))
  have z1 := hk.size
  clear hk CO HW B0 R0
  cases ho : timersOkB t
  · have E : Hid (forgetB t q = false) := by show _ = _; simp [forgetB, ho]
    have E2 : Hid (forgetL t q = zeroT) := by show _ = _; simp [forgetL, ho]
    have r0 := bx0 R1.out
    have r1 := bx1 R1.out
    have r2 := bx2 R1.out
    have f0 := R1.out.frozen 0
    have f1 := R1.out.frozen 1
    have f2 := R1.out.frozen 2
    have BF := blk3 R1.out (.slice none 0 0) (.slice none 0 0) (.int .i64 0)
    have F0 := bx0 BF
    have F1 := bx1 BF
    have F2 := bx2 BF
    clear ho BF
    go_wp2_with fail
    exact bodyPost_ret (v := .tuple #[.agg #[.slice none 0 0, .slice none 0 0, .int .i64 0], .bool false]) (by simp [results, Try.results9, go_sem, F0, F1, F2]) rfl ⟨_, ret_ub E.out.symm, by rw [E2.out]; exact zero_own _ _ _, K1.out.trans2 (kept3 _ _ _ _ _) (.inr (by omega))⟩
  · have OK := Lib.hid (timersOk_iff.1 ho)
    have lh : t.heap.length ≤ 64 := (heapOk_iff.1 OK.out.heap).1
    have ll : t.list.length ≤ 64 := OK.out.len
    have EL : Hid (forgetL t q = forgetT t q) := by show _ = _; simp [forgetL, ho]
    have EB : Hid (forgetB t q = (atL t.list q).isSome) := by show _ = _; simp [forgetB, ho]
    have ES : Hid (stopL t q = stoppedT t q) := by show _ = _; simp [stopL, ho]
    have ET : Hid (stopB t q = armedAt t q) := by show _ = _; simp [stopB, ho]
    have CC := Lib.hid (stop4_any.at_ t q _ w1 (H.out.up K1.out))
    rw [ES.out, ET.out] at CC
    obtain ⟨t2, ht2⟩ : ∃ t2, t2 = stoppedT t q := ⟨_, rfl⟩
    rw [← ht2] at CC
    have nx : t2.next = t.next := by rw [ht2, stoppedT]; split <;> rfl
    have HT2 := Lib.hid ht2
    have NX := Lib.hid nx
    clear ht2 nx
    have b0 := bx0 B1.out
    have b1 := bx1 B1.out
    have b2 := bx2 B1.out
    clear ho
    go_wp2_with fail
    clear b0 b1 b2
    with_reducible refine CC.out.mono ?_
    rintro e w2 ⟨u, rfl, ⟨_, _, rfl, ⟨D1, d1, rfl, o1⟩, ⟨D2, d2, rfl, o2⟩⟩, hk⟩
    obtain ⟨V, hV⟩ : ∃ V, V = w2.alloc (.cells #[.slice D1 t2.heap.length d1, .slice D2 t2.list.length d2, .int .i64 t2.next] 27) := ⟨_, rfl⟩
    have kV : Kept 0 0 w2 V := by rw [hV]; exact Kept.alloc0 _ _
    have K2 := Lib.hid (K1.out.trans (hk.trans kV))
    have B2 := Lib.hid (B1.out.kept (hk.trans kV) (.inl (Nat.le_refl _)))
    have R2 := Lib.hid (R1.out.kept (hk.trans kV) (.inl (Nat.le_refl _)))
    have U2 : Hid (Blk V w2.heap.size 27 #[.slice D1 t2.heap.length d1, .slice D2 t2.list.length d2, .int .i64 t2.next]) := by show Blk _ _ _ _; rw [hV]; exact Blk.new _ _ _
    have O1 := Lib.hid (o1.kept kV (.inl (Nat.le_refl _)))
    have O2 := Lib.hid (o2.kept kV (.inl (Nat.le_refl _)))
    have z2 := hk.size
    have zV := kV.size
    have yV := U2.out.lt
    have HV := Lib.hid hV
    have CA := Lib.hid (at4_any t q _ V _ (Nat.le_refl _) (H.out.up K2.out))
    have b0 := bx0 B2.out
    have b1 := bx1 B2.out
    have b2 := bx2 B2.out
    rw [hV] at b0 b1 b2
    clear hk kV o1 o2 CC B1 R1 K1 hV
    go_wp2_with fail
    rw [← HV.out]
    clear b0 b1 b2 HV
    with_reducible refine CA.out.mono ?_
    rintro e w3 ⟨rfl, hk⟩
    have K3 := Lib.hid (K2.out.trans hk)
    have B3 := Lib.hid (B2.out.kept hk (.inl (Nat.le_refl _)))
    have R3 := Lib.hid (R2.out.kept hk (.inl (Nat.le_refl _)))
    have U3 := Lib.hid (U2.out.kept hk (.inl (Nat.le_refl _)))
    have P1 := Lib.hid (O1.out.kept hk (.inl (Nat.le_refl _)))
    have P2 := Lib.hid (O2.out.kept hk (.inl (Nat.le_refl _)))
    have z3 := hk.size
    clear hk CA B2 R2 K2 U2 O1 O2
    cases hp : atL t.list q with
    | none =>
      have E : Hid (forgetB t q = false) := by show _ = _; rw [EB.out, hp]; rfl
      have E2 : Hid (forgetL t q = t2) := by show _ = _; rw [EL.out, forgetT, hp, HT2.out, stoppedT, hp]
      rw [atI_none hp]
      have r0 := bx0 R3.out
      have r1 := bx1 R3.out
      have r2 := bx2 R3.out
      have f0 := R3.out.frozen 0
      have f1 := R3.out.frozen 1
      have f2 := R3.out.frozen 2
      have BF := blk3 R3.out (.slice D1 t2.heap.length d1) (.slice D2 t2.list.length d2) (.int .i64 t2.next)
      have F0 := bx0 BF
      have F1 := bx1 BF
      have F2 := bx2 BF
      have kF := kept3 w3 (w.heap.size + 1) (.slice D1 t2.heap.length d1) (.slice D2 t2.list.length d2) (.int .i64 t2.next)
      have KF := Lib.hid kF
      have zF := kF.size
      have u0 := bx0 U3.out
      have u1 := bx1 U3.out
      have u2 := bx2 U3.out
      clear hp BF kF
      go_wp2_with fail
      refine bodyPost_ret (v := .tuple #[.agg #[.slice D1 t2.heap.length d1, .slice D2 t2.list.length d2, .int .i64 t2.next], .bool false]) (by simp [results, Try.results9, go_sem, F0, F1, F2]) rfl ⟨_, ret_ub E.out.symm, ?_, K3.out.trans2 KF.out (.inr (by omega))⟩
      rw [E2.out]
      exact ⟨_, _, rfl, ⟨D1, d1, rfl, (P1.out.kept KF.out (.inr (.inr (by omega)))).wide (by omega) (by omega)⟩, ⟨D2, d2, rfl, (P2.out.kept KF.out (.inr (.inr (by omega)))).wide (by omega) (by omega)⟩⟩
    | some k =>
      obtain ⟨hkl, hke⟩ := atL_some hp
      rw [atI_some hp]
      have l2 : t2.list = t.list.set k (disarm t.list[k]) := by rw [HT2.out, stoppedT, hp]; simp [modify_set hkl]
      have h2 : t2.heap = withoutL t.heap q := by rw [HT2.out, stoppedT, hp]
      have len2 : t2.list.length = t.list.length := by rw [l2, List.length_set]
      have hk2 : k < t2.list.length := by omega
      have ll2 : t2.list.length ≤ 64 := by omega
      have E : Hid (forgetB t q = true) := by show _ = _; rw [EB.out, hp]; rfl
      have E2 : Hid (forgetL t q = ⟨t2.heap, t2.list.take k ++ t2.list.drop (k + 1), t2.next⟩) := by
        show _ = _
        rw [EL.out, forgetT, hp, h2, NX.out, l2, List.take_set_of_le (Nat.le_refl _), List.drop_set_of_lt (by omega)]
      have i1 : (k : Int) < (t2.list.length : Int) := by omega
      have i3 : decide ((k : Int) < 0) = false := by simp
      clear hp l2 h2 len2
      rcases P2.out.form with ⟨_, h0, _⟩ | ⟨g2, rfl, hlo, hhi, _⟩
      · omega
      have cp := P2.out.cap
      obtain ⟨cp1, cp2⟩ := cp
      unfold maxLen at cp2
      have HT := Lib.hid tmSlice
      have SS := (OwnZ.sl (R := tmR) P2.out).2.wide (B' := w3.heap.size) (by omega)
      have SA := Lib.hid (show SL tmR w3 w3.heap.size (some ⟨g2, 0, none⟩) d2 (t2.list.take k) by
        have := SS.part (i := 0) (m := k) (c' := d2) (by omega) (by omega) (by unfold maxLen; omega)
        simpa [Addr.add] using this)
      obtain ⟨la, hla⟩ : ∃ la, la = t2.list.take k := ⟨_, rfl⟩
      have tk : Hid (la.length = k) := by show _ = _; rw [hla]; simp; omega
      have tk' : la.length ≤ 64 := by have := tk.out; omega
      rw [← hla] at SA E2
      obtain ⟨lb, hlb⟩ : ∃ lb, lb = t2.list.drop (k + 1) := ⟨_, rfl⟩
      have dk : Hid (lb.length = t2.list.length - (k + 1)) := by show _ = _; rw [hlb]; simp
      have dk' : lb.length ≤ 64 := by have := dk.out; omega
      rw [← hlb] at E2
      have HLB := Lib.hid hlb
      clear hla hlb
      have u1 := bx1 U3.out
      have fu1 := U3.out.frozen 1
      have yU := U3.out.lt
      have yU' : w2.heap.size ≠ w3.heap.size := by omega
      have p1 : IntKind.i64.wrap ((k : Int) + 1) = (k : Int) + 1 := IntWalk.i64_in _ (by omega)
      have p2 : 0 ≤ (k : Int) + 1 := by omega
      have p3 : ((k : Int) + 1).toNat = k + 1 := by omega
      have p4 : (k : Int) + 1 ≤ (t2.list.length : Int) := by omega
      have p5 : (t2.list.length : Int) ≤ (d2 : Int) := by omega
      have p6 : (k : Int) ≤ (d2 : Int) := by omega
      have p7 : (k : Int) ≤ (t2.list.length : Int) := by omega
      go_upto_region 7 with fail
      go_cut [6] (fun v6 wx => v6 = .pointer (some ⟨w2.heap.size, 0, none⟩) ∧ ForgSt w w1 w3 w2.heap.size D1 d1 t2.heap (la ++ lb) t2.next wx)
      case first =>
        by_cases hd : d2 = k + 1
        · have eb : lb = [] := List.eq_nil_of_length_eq_zero (by have := dk.out; omega)
          subst eb
          subst hd
          have p8 : (k : Int) ≤ (k : Int) + 1 := by omega
          have p9 : k ≤ k + 1 := by omega
          clear SS
          go_region_law (first
              | (refine step_app (R := tmR) rfl (.tmp 25) (.tmp 29) rfl HT.out w3.heap.size (some ⟨w3.heap.size, 0, none⟩) 0 [] rfl (own_emptyZ (Blk.new w3 50 #[]).drew (Nat.le_refl _)) w3.heap.size (some ⟨g2, 0, none⟩) (k + 1) la (by rw [tk.out]; rfl) (by exact SA.out.rd.kept (Nat.le_refl _) (Kept.alloc0 w3 (.cells #[] 50)).drew (.inl (Nat.le_refl _))) (by simp [maxLen]; omega) (by simp; omega) (by simp) ?_; intro D5 d5 w5 hown hgrow hat; have c5 : Kept w3.heap.size (w3.heap.size + 1) (w3.alloc (.cells #[] 50)).drew w5 := kept_of_row hgrow; have k5 : Kept 0 0 w3 w5 := (Kept.alloc0 w3 (.cells #[] 50)).drew.trans2 c5 (.inr (Nat.le_refl _)); have O5 : w5.ownsRow w3.heap.size 50 5 (.slice D5 la.length d5) la.length (tmR.flat la) := hown; have z5 := k5.size; have Y1 := U3.out.kept k5 (.inl (Nat.le_refl _)); have y1 := bx1 Y1; have N5 := (fun g hg => (own_row_lo hown g hg).1); clear hown hgrow hat)
              | (have _t := O5; refine step_app (R := tmR) rfl (.tmp 30) (.tmp 35) rfl HT.out w3.heap.size D5 d5 la (by first | rfl | (rw [tk.out]; rfl)) O5 w3.heap.size (some ⟨g2, 0, none⟩) 0 [] (by first | rfl | (rw [dk.out]; rfl)) (RdR.nil _ _ _) (by unfold maxLen; simp; omega) (by first | omega | (simp; omega)) z5 ?_; intro D6 d6 w6 hown hgrow hat; have k6 : Kept 0 0 w3 w6 := k5.app hgrow N5; have c6 := kept_app hgrow; have O6 := hown; have z6 := k6.size; have Y2 := U3.out.kept k6 (.inl (Nat.le_refl _)); have yv := bx1 Y2; have fy := Y2.frozen 1; clear hown hgrow hat))
          all_goals (go_wp2_with fail; go_meet)
          all_goals (obtain ⟨V4, hV4⟩ : ∃ V4, V4 = w6.setCell ⟨w2.heap.size, 1, none⟩ (.slice D6 (la.length) d6) := ⟨_, rfl⟩)
          all_goals (have k4 : Kept w2.heap.size (w2.heap.size + 1) w6 V4 := by rw [hV4]; exact (Kept.refl w2.heap.size (w2.heap.size + 1) w6).setCell (.inr ⟨Nat.le_refl _, Nat.lt_succ_self _⟩) _)
          all_goals (have U6 : Blk V4 w2.heap.size 27 #[.slice D1 t2.heap.length d1, .slice D6 (la ++ []).length d6, .int .i64 t2.next] := by rw [hV4]; have := Y2.set_ 1 (.slice D6 (la.length) d6); simpa using this)
          all_goals (have O7 := row_other O6 (row_ne O6 Y2 (by decide)) k4)
          all_goals (rw [← hV4]; exact ⟨rfl, D6, d6, U6, (R3.out.kept k6 (.inl (Nat.le_refl _))).kept k4 (by omega), (by simpa [tmR_k] using O7), (P1.out.kept k6 (.inl (Nat.le_refl _))).kept k4 (by omega), (K3.out.trans k6).trans2 k4 (.inr (by omega)), Nat.le_trans z6 k4.size⟩)
        · have SB := Lib.hid (show SL tmR w3 w3.heap.size (some ⟨g2, (k + 1) * 5, none⟩) (d2 - (k + 1)) lb by
            have := SS.part (i := k + 1) (m := t2.list.length - (k + 1)) (c' := d2 - (k + 1)) (by omega) (by omega) (by unfold maxLen; omega)
            rw [List.take_of_length_le (by simp), ← HLB.out] at this
            simpa [Addr.add, tmR_k] using this)
          have hd' : ¬ (d2 : Int) = (k : Int) + 1 := by omega
          clear SS
          go_region_law (first
              | (refine step_app (R := tmR) rfl (.tmp 25) (.tmp 29) rfl HT.out w3.heap.size (some ⟨w3.heap.size, 0, none⟩) 0 [] rfl (own_emptyZ (Blk.new w3 50 #[]).drew (Nat.le_refl _)) w3.heap.size (some ⟨g2, 0, none⟩) d2 la (by rw [tk.out]; rfl) (by exact SA.out.rd.kept (Nat.le_refl _) (Kept.alloc0 w3 (.cells #[] 50)).drew (.inl (Nat.le_refl _))) (by simp [maxLen]; omega) (by simp; omega) (by simp) ?_; intro D5 d5 w5 hown hgrow hat; have c5 : Kept w3.heap.size (w3.heap.size + 1) (w3.alloc (.cells #[] 50)).drew w5 := kept_of_row hgrow; have k5 : Kept 0 0 w3 w5 := (Kept.alloc0 w3 (.cells #[] 50)).drew.trans2 c5 (.inr (Nat.le_refl _)); have O5 : w5.ownsRow w3.heap.size 50 5 (.slice D5 la.length d5) la.length (tmR.flat la) := hown; have z5 := k5.size; have Y1 := U3.out.kept k5 (.inl (Nat.le_refl _)); have y1 := bx1 Y1; have N5 := (fun g hg => (own_row_lo hown g hg).1); clear hown hgrow hat)
              | (have _t := O5; refine step_app (R := tmR) rfl (.tmp 30) (.tmp 35) rfl HT.out w3.heap.size D5 d5 la (by first | rfl | (rw [tk.out]; rfl)) O5 w3.heap.size (some ⟨g2, (k + 1) * 5, none⟩) (d2 - (k + 1)) lb (by first | rfl | (rw [dk.out]; rfl)) (by exact SB.out.rd.kept (Nat.le_refl _) k5 (.inl (Nat.le_refl _))) (by unfold maxLen; simp; omega) (by first | omega | (simp; omega)) z5 ?_; intro D6 d6 w6 hown hgrow hat; have k6 : Kept 0 0 w3 w6 := k5.app hgrow N5; have c6 := kept_app hgrow; have O6 := hown; have z6 := k6.size; have Y2 := U3.out.kept k6 (.inl (Nat.le_refl _)); have yv := bx1 Y2; have fy := Y2.frozen 1; clear hown hgrow hat))
          all_goals (go_wp2_with fail; go_meet)
          all_goals (obtain ⟨V4, hV4⟩ : ∃ V4, V4 = w6.setCell ⟨w2.heap.size, 1, none⟩ (.slice D6 (la.length + lb.length) d6) := ⟨_, rfl⟩)
          all_goals (have k4 : Kept w2.heap.size (w2.heap.size + 1) w6 V4 := by rw [hV4]; exact (Kept.refl w2.heap.size (w2.heap.size + 1) w6).setCell (.inr ⟨Nat.le_refl _, Nat.lt_succ_self _⟩) _)
          all_goals (have U6 : Blk V4 w2.heap.size 27 #[.slice D1 t2.heap.length d1, .slice D6 (la ++ lb).length d6, .int .i64 t2.next] := by rw [hV4]; have := Y2.set_ 1 (.slice D6 (la.length + lb.length) d6); simpa using this)
          all_goals (have O7 := row_other O6 (row_ne O6 Y2 (by decide)) k4)
          all_goals (rw [← hV4]; exact ⟨rfl, D6, d6, U6, (R3.out.kept k6 (.inl (Nat.le_refl _))).kept k4 (by omega), (by simpa [tmR_k] using O7), (P1.out.kept k6 (.inl (Nat.le_refl _))).kept k4 (by omega), (K3.out.trans k6).trans2 k4 (.inr (by omega)), Nat.le_trans z6 k4.size⟩)
      case rest =>
        obtain ⟨wx, rfl⟩ : ∃ wx : World, wx = wc := ⟨_, rfl⟩
        obtain ⟨rfl, D6, d6, U6, R6, O7, H7, K7, z7⟩ := hcut
        obtain ⟨hh, hhd⟩ : ∃ hh, hh = la ++ lb := ⟨_, rfl⟩
        rw [← hhd] at U6 O7 E2
        have v0 := bx0 U6
        have v1 := bx1 U6
        have v2 := bx2 U6
        have r0 := bx0 R6
        have r1 := bx1 R6
        have r2 := bx2 R6
        have f0 := R6.frozen 0
        have f1 := R6.frozen 1
        have f2 := R6.frozen 2
        have BF := blk3 R6 (.slice D1 t2.heap.length d1) (.slice D6 hh.length d6) (.int .i64 t2.next)
        have F0 := bx0 BF
        have F1 := bx1 BF
        have F2 := bx2 BF
        have KF := kept3 wx (w.heap.size + 1) (.slice D1 t2.heap.length d1) (.slice D6 hh.length d6) (.int .i64 t2.next)
        have HF1 := Lib.hid (row_other O7 (row_ne O7 R6 (by decide)) KF)
        have zF := KF.size
        have HF2 := Lib.hid H7
        have HF3 := Lib.hid K7
        have HF4 := Lib.hid KF
        clear U6 R6 O7 H7 K7 BF KF hhd u1 fu1
        go_wp2_with fail
        refine bodyPost_ret (v := .tuple #[.agg #[.slice D1 t2.heap.length d1, .slice D6 hh.length d6, .int .i64 t2.next], .bool true]) (by simp [results, Try.results9, go_sem, F0, F1, F2]) rfl ⟨_, ret_ub E.out.symm, ?_, HF3.out.trans2 HF4.out (.inr (by omega))⟩
        rw [E2.out]
        exact ⟨_, _, rfl, ⟨D1, d1, rfl, (HF2.out.kept HF4.out (.inr (.inr (by omega)))).wide (by omega) (by omega)⟩, ⟨D6, d6, rfl, (OwnZ.of_row HF1.out).wide (by omega) (Nat.le_refl _)⟩⟩
end Go.Proofs.Ytnphjohmkjoefaa
