/- The reference's Reset; no condition beyond that the timers can be read. -/
import Derived.Test.YtnphjohmkjoefaaTr
namespace Go.Proofs.Ytnphjohmkjoefaa
open Go.RowKit Go.Sort

def rearm (due : Int) (x : Tm) : Tm := { x with due := due, armed := true }
noncomputable def resetT (t : Tms) (q due : Int) : Tms := match atL t.list q with
  | none => t
  | some k => ⟨putL (withoutL t.heap q) due q, t.list.modify k (rearm due), t.next⟩
noncomputable def resetL (t : Tms) (q due : Int) : Tms := if timersOkB t then resetT t q due else zeroT
noncomputable def resetB (t : Tms) (q _due : Int) : Bool := timersOkB t && armedAt t q
def DoesMII (f : FuncId) (g : Tms → Int → Int → Tms) (b : Tms → Int → Int → Bool) : Prop := ∀ (t : Tms) (q d : Int) (v : Value) (w : World), RdM w w.heap.size v t → Calls Try.prog f #[v, .int .i64 q, .int .i64 d] w fun e w' => ∃ u, e = .returned (.tuple #[u, .bool (b t q d)]) ∧ OwnM w' w.heap.size w'.heap.size u (g t q d) ∧ Kept 0 0 w w'
theorem DoesMII.at_ {f : FuncId} {g : Tms → Int → Int → Tms} {b : Tms → Int → Int → Bool} (h : DoesMII f g b) (t : Tms) (q d : Int) (v : Value) (w : World) (hr : RdM w w.heap.size v t) : Calls Try.prog f #[v, .int .i64 q, .int .i64 d] w fun e w' => ∃ u, e = .returned (.tuple #[u, .bool (b t q d)]) ∧ OwnM w' w.heap.size w'.heap.size u (g t q d) ∧ Kept 0 0 w w' := h t q d v w hr
theorem cells_set (x y : Tm) (h0 : y.seq = x.seq) (h1 : y.due = x.due) (h2 : y.what = x.what) (h3 : y.whom = x.whom) : tmR.cells y = (tmR.cells x).set 4 (.bool y.armed) := by
  obtain ⟨a, b, c, d, e⟩ := x
  obtain ⟨a', b', c', d', e'⟩ := y
  subst h0 h1 h2 h3
  rfl
theorem cells_set1 (x y : Tm) (h0 : y.seq = x.seq) (h1 : y.armed = x.armed) (h2 : y.what = x.what) (h3 : y.whom = x.whom) : tmR.cells y = (tmR.cells x).set 1 (.int .i64 y.due) := by
  obtain ⟨a, b, c, d, e⟩ := x
  obtain ⟨a', b', c', d', e'⟩ := y
  subst h0 h1 h2 h3
  rfl

set_option maxHeartbeats 3200000 in
set_option maxRecDepth 100000 in
theorem reset4_any : DoesMII 7 resetL resetB := by
  intro t q due v w h
  have H := Lib.hid h
  obtain ⟨hv, lv, rfl, ⟨A1, c1, rfl, s2⟩, ⟨A2, c2, rfl, s3⟩⟩ := h
  have m2 := s3.rd.1
  unfold maxLen at m2
  obtain ⟨W, hW⟩ : ∃ W, W = (w.alloc (.cells #[.slice A1 t.heap.length c1, .slice A2 t.list.length c2, .int .i64 t.next] 27)).alloc (.cells #[.slice none 0 0, .slice none 0 0, .int .i64 0] 27) := ⟨_, rfl⟩
  have KV : Hid (Kept 0 0 w W) := by show Kept _ _ _ _; rw [hW]; exact (Kept.alloc0 _ _).alloc _
  have B0 : Hid (Blk W w.heap.size 27 #[.slice A1 t.heap.length c1, .slice A2 t.list.length c2, .int .i64 t.next]) := by show Blk _ _ _ _; rw [hW]; exact (Blk.new _ _ _).alloc _
  have R0 : Hid (Blk W (w.heap.size + 1) 27 #[.slice none 0 0, .slice none 0 0, .int .i64 0]) := by show Blk _ _ _ _; rw [hW]; exact blk2_new _ _ _ _
  have zW : w.heap.size + 2 ≤ W.heap.size := by rw [hW]; simp
  have CO := Lib.hid (ok4_any t _ W (H.out.up KV.out))
  have HW := Lib.hid hW
  have S3 := Lib.hid s3
  have S2 := Lib.hid s2
  clear s2 s3 hW
  go_enter Try.func7, Try.ntmps7
  go_wp2_with fail
  rw [← HW.out]
  with_reducible refine CO.out.mono ?_
  rintro e w1 ⟨rfl, hk⟩
  have K1 := Lib.hid (KV.out.trans hk)
  have B1 := Lib.hid (B0.out.kept hk (.inl (Nat.le_refl _)))
  have R1 := Lib.hid (R0.out.kept hk (.inl (Nat.le_refl _)))
  have z1 := hk.size
  clear hk CO HW B0 R0
  cases ho : timersOkB t
  · have E : Hid (resetB t q due = false) := by show _ = _; simp [resetB, ho]
    have E2 : Hid (resetL t q due = zeroT) := by show _ = _; simp [resetL, ho]
    have r0 := bx0 R1.out
    have r1 := bx1 R1.out
    have r2 := bx2 R1.out
    have f0 := R1.out.frozen 0
    have f1 := R1.out.frozen 1
    have f2 := R1.out.frozen 2
    have BF := blk3 R1.out (.slice none 0 0) (.slice none 0 0) (.int .i64 0)
    have F0 := bx0 BF
    have F1 := bx1 BF
    have F2 := bx2 BF
    clear ho BF
    go_wp2_with fail
    exact bodyPost_ret (v := .tuple #[.agg #[.slice none 0 0, .slice none 0 0, .int .i64 0], .bool false]) (by simp [results, Try.results7, go_sem, F0, F1, F2]) rfl ⟨_, ret_ub E.out.symm, by rw [E2.out]; exact zero_own _ _ _, K1.out.trans2 (kept3 _ _ _ _ _) (.inr (by omega))⟩
  · have OK := Lib.hid (timersOk_iff.1 ho)
    have lh : t.heap.length ≤ 64 := (heapOk_iff.1 OK.out.heap).1
    have ll : t.list.length ≤ 64 := OK.out.len
    have EL : Hid (resetL t q due = resetT t q due) := by show _ = _; simp [resetL, ho]
    have EB : Hid (resetB t q due = armedAt t q) := by show _ = _; simp [resetB, ho]
    have ES : Hid (stopL t q = stoppedT t q) := by show _ = _; simp [stopL, ho]
    have ET : Hid (stopB t q = armedAt t q) := by show _ = _; simp [stopB, ho]
    have CC := Lib.hid (stop4_any.at_ t q _ w1 (H.out.up K1.out))
    rw [ES.out, ET.out] at CC
    obtain ⟨t2, ht2⟩ : ∃ t2, t2 = stoppedT t q := ⟨_, rfl⟩
    rw [← ht2] at CC
    have nx : t2.next = t.next := by rw [ht2, stoppedT]; split <;> rfl
    have HT2 := Lib.hid ht2
    have NX := Lib.hid nx
    clear ht2 nx
    have b0 := bx0 B1.out
    have b1 := bx1 B1.out
    have b2 := bx2 B1.out
    clear ho
    go_wp2_with fail
    clear b0 b1 b2
    with_reducible refine CC.out.mono ?_
    rintro e w2 ⟨u, rfl, ⟨_, _, rfl, ⟨D1, d1, rfl, o1⟩, ⟨D2, d2, rfl, o2⟩⟩, hk⟩
    obtain ⟨V, hV⟩ : ∃ V, V = w2.alloc (.cells #[.slice D1 t2.heap.length d1, .slice D2 t2.list.length d2, .int .i64 t2.next] 27) := ⟨_, rfl⟩
    have kV : Kept 0 0 w2 V := by rw [hV]; exact Kept.alloc0 _ _
    have K2 := Lib.hid (K1.out.trans (hk.trans kV))
    have B2 := Lib.hid (B1.out.kept (hk.trans kV) (.inl (Nat.le_refl _)))
    have R2 := Lib.hid (R1.out.kept (hk.trans kV) (.inl (Nat.le_refl _)))
    have U2 : Hid (Blk V w2.heap.size 27 #[.slice D1 t2.heap.length d1, .slice D2 t2.list.length d2, .int .i64 t2.next]) := by show Blk _ _ _ _; rw [hV]; exact Blk.new _ _ _
    have O1 := Lib.hid (o1.kept kV (.inl (Nat.le_refl _)))
    have O2 := Lib.hid (o2.kept kV (.inl (Nat.le_refl _)))
    have z2 := hk.size
    have zV := kV.size
    have yV := U2.out.lt
    have HV := Lib.hid hV
    have CA := Lib.hid (at4_any t q _ V _ (Nat.le_refl _) (H.out.up K2.out))
    have b0 := bx0 B2.out
    have b1 := bx1 B2.out
    have b2 := bx2 B2.out
    rw [hV] at b0 b1 b2
    clear hk kV o1 o2 CC B1 R1 K1 hV
    go_wp2_with fail
    rw [← HV.out]
    clear b0 b1 b2 HV
    with_reducible refine CA.out.mono ?_
    rintro e w3 ⟨rfl, hk⟩
    have K3 := Lib.hid (K2.out.trans hk)
    have B3 := Lib.hid (B2.out.kept hk (.inl (Nat.le_refl _)))
    have R3 := Lib.hid (R2.out.kept hk (.inl (Nat.le_refl _)))
    have U3 := Lib.hid (U2.out.kept hk (.inl (Nat.le_refl _)))
    have P1 := Lib.hid (O1.out.kept hk (.inl (Nat.le_refl _)))
    have P2 := Lib.hid (O2.out.kept hk (.inl (Nat.le_refl _)))
    have z3 := hk.size
    clear hk CA B2 R2 K2 U2 O1 O2
    cases hp : atL t.list q with
    | none =>
      have E : Hid (resetB t q due = false) := by show _ = _; rw [EB.out, armedAt, hp]
      have E2 : Hid (resetL t q due = t2) := by show _ = _; rw [EL.out, resetT, hp, HT2.out, stoppedT, hp]
      rw [atI_none hp]
      have r0 := bx0 R3.out
      have r1 := bx1 R3.out
      have r2 := bx2 R3.out
      have f0 := R3.out.frozen 0
      have f1 := R3.out.frozen 1
      have f2 := R3.out.frozen 2
      have BF := blk3 R3.out (.slice D1 t2.heap.length d1) (.slice D2 t2.list.length d2) (.int .i64 t2.next)
      have F0 := bx0 BF
      have F1 := bx1 BF
      have F2 := bx2 BF
      have kF := kept3 w3 (w.heap.size + 1) (.slice D1 t2.heap.length d1) (.slice D2 t2.list.length d2) (.int .i64 t2.next)
      have KF := Lib.hid kF
      have zF := kF.size
      have u0 := bx0 U3.out
      have u1 := bx1 U3.out
      have u2 := bx2 U3.out
      clear hp BF kF
      go_wp2_with fail
      refine bodyPost_ret (v := .tuple #[.agg #[.slice D1 t2.heap.length d1, .slice D2 t2.list.length d2, .int .i64 t2.next], .bool false]) (by simp [results, Try.results7, go_sem, F0, F1, F2]) rfl ⟨_, ret_ub E.out.symm, ?_, K3.out.trans2 KF.out (.inr (by omega))⟩
      rw [E2.out]
      exact ⟨_, _, rfl, ⟨D1, d1, rfl, (P1.out.kept KF.out (.inr (.inr (by omega)))).wide (by omega) (by omega)⟩, ⟨D2, d2, rfl, (P2.out.kept KF.out (.inr (.inr (by omega)))).wide (by omega) (by omega)⟩⟩
    | some k =>
      obtain ⟨hkl, hke⟩ := atL_some hp
      rw [atI_some hp]
      have l2 : t2.list = t.list.set k (disarm t.list[k]) := by rw [HT2.out, stoppedT, hp]; simp [modify_set hkl]
      have h2 : t2.heap = withoutL t.heap q := by rw [HT2.out, stoppedT, hp]
      have len2 : t2.list.length = t.list.length := by rw [l2, List.length_set]
      have hk2 : k < t2.list.length := by omega
      have E2 : Hid (resetL t q due = ⟨putL t2.heap due q, t.list.set k (rearm due t.list[k]), t2.next⟩) := by show _ = _; rw [EL.out, resetT, hp, h2, NX.out]; simp [modify_set hkl]
      have x2 : Hid (t2.list[k] = disarm t.list[k]) := by show _ = _; simp [l2]
      have L2 := Lib.hid l2
      have i1 : (k : Int) < (t2.list.length : Int) := by omega
      have i3 : decide ((k : Int) < 0) = false := by simp
      have ph : t2.heap.length ≤ 64 := by rw [h2]; exact withoutL_len _ _
      have E := EB
      clear hp l2 h2 len2
      rcases P2.out.form with ⟨_, h0, _⟩ | ⟨g2, rfl, hlo, hhi, _⟩
      · omega
      have c4 : w3.cell? ⟨g2, k * 5 + 4, none⟩ = some (.bool t2.list[k].armed) := own_at (R := tmR) P2.out.1 hk2 4 rfl
      have c1' : w3.cell? ⟨g2, k * 5 + 1, none⟩ = some (.int .i64 t2.list[k].due) := own_at (R := tmR) P2.out.1 hk2 1 rfl
      have f4 : w3.frozen? ⟨g2, k * 5 + 4, none⟩ = false := P2.out.1.frozenAt _
      have f1' : w3.frozen? ⟨g2, k * 5 + 1, none⟩ = false := P2.out.1.frozenAt _
      obtain ⟨V3, hV3⟩ : ∃ V3, V3 = (w3.setCell ⟨g2, k * 5 + 4, none⟩ (.bool true)).setCell ⟨g2, k * 5 + 1, none⟩ (.int .i64 due) := ⟨_, rfl⟩
      have k3 : Kept g2 (g2 + 1) w3 V3 := by rw [hV3]; exact ((Kept.refl g2 (g2 + 1) w3).setCell (.inr ⟨Nat.le_refl _, Nat.lt_succ_self _⟩) _).setCell (.inr ⟨Nat.le_refl _, Nat.lt_succ_self _⟩) _
      have Q2 : Hid (V3.ownsRow w1.heap.size 50 5 (.slice (some ⟨g2, 0, none⟩) t2.list.length d2) t2.list.length (tmR.flat (t.list.set k (rearm due t.list[k])))) := by
        show World.ownsRow _ _ _ _ _ _ _
        rw [hV3]
        have a1 := own_set1Tm P2.out.1 hk2 4 (by decide) (.bool true) { t2.list[k] with armed := true } (cells_set _ _ rfl rfl rfl rfl)
        have a2 := own_set1Tm (k := k) a1 (by simpa using hk2) 1 (by decide) (.int .i64 due) { t2.list[k] with armed := true, due := due } (by rw [List.getElem_set_self]; exact cells_set1 _ _ rfl rfl rfl rfl)
        have e3 : (t2.list.set k { t2.list[k] with armed := true }).set k { t2.list[k] with armed := true, due := due } = t.list.set k (rearm due t.list[k]) := by
          rw [List.set_set, x2.out, L2.out, List.set_set]
          rfl
        rw [e3] at a2
        exact a2
      have K4 := Lib.hid (K3.out.trans2 k3 (.inr (by omega)))
      have R4 := Lib.hid (R3.out.kept k3 (by omega))
      have U4 := Lib.hid (U3.out.kept k3 (by omega))
      have P4 := Lib.hid (P2.out.other P1.out (by decide) (show Kept (aLo (some ⟨g2, 0, none⟩)) (aHi (some ⟨g2, 0, none⟩)) w3 V3 from k3))
      have z4 := k3.size
      have CW := Lib.hid (specPut.at_ t2.heap due q (.slice D1 t2.heap.length d1) V3 ⟨D1, d1, rfl, ((OwnZ.sl (R := twR) P4.out).2).wide (by omega)⟩)
      have u1 := bx1 U3.out
      have u0 := bx0 U4.out
      have HV := Lib.hid hV3
      rw [hV3] at u0
      clear k3 hV3
      go_wp2_with fail
      rw [← HV.out]
      clear u1 u0 HV c4 f4 c1' f1'
      with_reducible refine CW.out.mono ?_
      rintro e w4 ⟨u4, rfl, ⟨D4, d4, rfl, o4⟩, hk⟩
      obtain ⟨hh, hhd⟩ : ∃ hh, hh = putL t2.heap due q := ⟨_, rfl⟩
      rw [← hhd] at o4 E2
      rw [← hhd]
      clear hhd
      obtain ⟨V4, hV4⟩ : ∃ V4, V4 = w4.setCell ⟨w2.heap.size, 0, none⟩ (.slice D4 hh.length d4) := ⟨_, rfl⟩
      have k4 : Kept w2.heap.size (w2.heap.size + 1) w4 V4 := by rw [hV4]; exact (Kept.refl w2.heap.size (w2.heap.size + 1) w4).setCell (.inr ⟨Nat.le_refl _, Nat.lt_succ_self _⟩) _
      have U5 := Lib.hid (U4.out.kept hk (.inl (Nat.le_refl _)))
      have y4 := hk.size
      have yy := k4.size
      have U6 : Hid (Blk V4 w2.heap.size 27 #[.slice D4 hh.length d4, .slice (some ⟨g2, 0, none⟩) t2.list.length d2, .int .i64 t2.next]) := by show Blk _ _ _ _; rw [hV4]; have := U5.out.set_ 0 (.slice D4 hh.length d4); simpa using this
      have K5 := Lib.hid ((K4.out.trans hk).trans2 k4 (.inr (by omega)))
      have R5 := Lib.hid ((R4.out.kept hk (.inl (Nat.le_refl _))).kept k4 (by omega))
      have O4 := Lib.hid (o4.kept k4 (by omega))
      have Q5 := Lib.hid ((OwnZ.mk_ (hi := w2.heap.size) (row_kept Q2.out hk) hhi).kept k4 (by omega))
      have u0 := bx0 U5.out
      have fu := U5.out.frozen 0
      have v0 := bx0 U6.out
      have v1 := bx1 U6.out
      have v2 := bx2 U6.out
      have r0 := bx0 R5.out
      have r1 := bx1 R5.out
      have r2 := bx2 R5.out
      have f0 := R5.out.frozen 0
      have f1 := R5.out.frozen 1
      have f2 := R5.out.frozen 2
      have BF := blk3 R5.out (.slice D4 hh.length d4) (.slice (some ⟨g2, 0, none⟩) t2.list.length d2) (.int .i64 t2.next)
      have F0 := bx0 BF
      have F1 := bx1 BF
      have F2 := bx2 BF
      have kF := kept3 V4 (w.heap.size + 1) (.slice D4 hh.length d4) (.slice (some ⟨g2, 0, none⟩) t2.list.length d2) (.int .i64 t2.next)
      have KF := Lib.hid kF
      have zF := kF.size
      rw [hV4] at v0 v1 v2 r0 r1 r2 f0 f1 f2 F0 F1 F2
      have HV := Lib.hid hV4
      have LE : Hid ((t.list.set k (rearm due t.list[k])).length = t2.list.length) := by show _ = _; rw [List.length_set, L2.out, List.length_set]
      clear hk k4 hV4 o4 CW BF kF U4 R4 K4 Q2 U3 R3 B3 K3
      go_wp2_with fail
      rw [← HV.out] at F0 F1 F2 ⊢
      refine bodyPost_ret (v := .tuple #[.agg #[.slice D4 hh.length d4, .slice (some ⟨g2, 0, none⟩) t2.list.length d2, .int .i64 t2.next], .bool (armedAt t q)]) (by simp [results, Try.results7, go_sem, F0, F1, F2]) rfl ⟨_, ret_ub E.out.symm, ?_, K5.out.trans2 KF.out (.inr (by omega))⟩
      rw [E2.out]
      exact ⟨_, _, rfl, ⟨D4, d4, rfl, (O4.out.kept KF.out (.inr (.inr (by omega)))).wide (by omega) (by omega)⟩, ⟨some ⟨g2, 0, none⟩, d2, by rw [LE.out], by rw [LE.out]; exact (Q5.out.kept KF.out (.inr (.inr (by omega)))).wide (by omega) (by omega)⟩⟩
end Go.Proofs.Ytnphjohmkjoefaa
