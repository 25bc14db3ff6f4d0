/- The program's changed, for a change that is known by its contract; no condition beyond that the timers can be read. -/
import Derived.Test.YtnphjohmkjoefaaQi
namespace Go.Proofs.Ytnphjohmkjoefaa
open Go.RowKit Go.Sort

/-- Valid timers as the program has made them. -/
structure MadeA (T : Tms) (W w1 : World) (b : Nat) (t : PT) (D : Option Addr) (d : Nat) (zs : List Tr) : Prop where
  ok : TmsOk T
  kept : Kept 0 0 W w1
  alm : Alm w1 W.heap.size b (.pointer none) t D d zs T.next
  eq : zs.map Tr.x = T.list
  pre : t.tree.pre = T.heap
  tok : t.tree.ok = true
  inT : ∀ z ∈ zs, z.x.armed = true → InT t z.x z.e
noncomputable def chgL (T : Tms) (q : Int) (G : Nat → Tms) : Tms := if timersOkB T then (match atL T.list q with | some k => G k | none => T) else zeroT
noncomputable def chgB (T : Tms) (q : Int) (B : Nat → Bool) : Bool := timersOkB T && (match atL T.list q with | some k => B k | none => false)
/-- What a change returns. -/
def ChgPost (T : Tms) (W w1 : World) (b : Nat) (G : Tms) (B : Bool) (e : Ending) (w2 : World) : Prop :=
  e = .returned (.bool B) ∧ ∃ par t D d zs, Alm w2 W.heap.size b par t D d zs T.next ∧ zs.length ≤ 64 ∧ t.size ≤ 1000 ∧ (⟨t.tree.pre, zs.map Tr.x, T.next⟩ : Tms) = G ∧ Fr W.heap.size w1 w2

set_option maxHeartbeats 3200000 in
set_option maxRecDepth 100000 in
theorem changedF (T : Tms) (q : Int) (G : Nat → Tms) (B : Nat → Bool) (v : Value) (w : World) (h : RdM w w.heap.size v T) (hC : ∀ W w1 b t D d zs k, Kept 0 0 w W → MadeA T W w1 b t D d zs → atL T.list q = some k → ∀ hz : k < zs.length, Calls Try.prog 25 #[toBlk b, toBlk zs[k].p] w1 (ChgPost T W w1 b (G k) (B k))) :
    Calls Try.prog 17 #[v, .int .i64 q, .func (.func 25) #[] #[]] w fun e w' => ∃ u, e = .returned (.tuple #[u, .bool (chgB T q B)]) ∧ OwnM w' w.heap.size w'.heap.size u (chgL T q G) ∧ Kept 0 0 w w' := by
  have HC := Lib.hid hC
  clear hC
  obtain ⟨hv, lv, rfl, ⟨A1, c1, rfl, s2⟩, ⟨A2, c2, rfl, s3⟩⟩ := h
  have H : Hid (RdM w w.heap.size (.agg #[.slice A1 T.heap.length c1, .slice A2 T.list.length c2, .int .i64 T.next]) T) := ⟨_, _, rfl, ⟨A1, c1, rfl, s2⟩, ⟨A2, c2, rfl, s3⟩⟩
  obtain ⟨W, hW⟩ : ∃ W, W = (w.alloc (.cells #[.slice A1 T.heap.length c1, .slice A2 T.list.length c2, .int .i64 T.next] 27)).alloc (.cells #[.slice none 0 0, .slice none 0 0, .int .i64 0] 27) := ⟨_, rfl⟩
  have KV : Hid (Kept 0 0 w W) := by show Kept _ _ _ _; rw [hW]; exact (Kept.alloc0 _ _).alloc _
  have R0 : Hid (Blk W (w.heap.size + 1) 27 #[.slice none 0 0, .slice none 0 0, .int .i64 0]) := by show Blk _ _ _ _; rw [hW]; exact blk2_new _ _ _ _
  have zW : w.heap.size + 2 ≤ W.heap.size := by rw [hW]; simp
  have CA := Lib.hid (alarmsOf_any T _ W (H.out.up KV.out))
  have HW := Lib.hid hW
  clear s2 s3 hW
  go_enter Try.func17, Try.ntmps17
  go_wp2_with fail
  rw [← HW.out]
  with_reducible refine CA.out.mono ?_
  rintro e w1 ⟨k1, p, rfl, h1⟩
  have K1 := Lib.hid k1
  have H1 := Lib.hid h1
  have R1 := Lib.hid (R0.out.kept k1 (.inl (Nat.le_refl _)))
  have z1 := k1.size
  clear k1 h1 CA HW R0
  cases ho : timersOkB T
  · have E : Hid ((chgB T q B) = false) := by show _ = _; simp [chgL, chgB, ho]
    have E2 : Hid ((chgL T q G) = zeroT) := by show _ = _; simp [chgL, chgB, ho]
    have r0 := bx0 R1.out
    have r1 := bx1 R1.out
    have r2 := bx2 R1.out
    have f0 := R1.out.frozen 0
    have f1 := R1.out.frozen 1
    have f2 := R1.out.frozen 2
    have BF := blk3 R1.out (.slice none 0 0) (.slice none 0 0) (.int .i64 0)
    have F0 := bx0 BF
    have F1 := bx1 BF
    have F2 := bx2 BF
    clear ho BF
    go_wp2_with fail
    exact bodyPost_ret (v := .tuple #[.agg #[.slice none 0 0, .slice none 0 0, .int .i64 0], .bool false]) (by simp [results, Try.results17, go_sem, F0, F1, F2]) rfl ⟨_, ret_ub E.out.symm, by rw [E2.out]; exact zero_own _ _ _, (KV.out.trans K1.out).trans2 (kept3 _ _ _ _ _) (.inr (by omega))⟩
  · have M0 : Hid (∃ b t D d zs, p = some ⟨b, 0, none⟩ ∧ MadeA T W w1 b t D d zs) := by
      obtain ⟨b, t, D, d, zs, e, A, eq, hp, hok, inT⟩ := H1.out ho
      exact ⟨b, t, D, d, zs, e, timersOk_iff.1 ho, K1.out, A, eq, hp, hok, inT⟩
    obtain ⟨b, t, D, d, zs, rfl, A, eq, hp, hok, inT⟩ := H1.out ho
    have OK := Lib.hid (timersOk_iff.1 ho)
    have AL := Lib.hid A
    have EQ := Lib.hid eq
    have HP := Lib.hid hp
    have HK := Lib.hid hok
    have IN := Lib.hid inT
    have ZL : Hid (zs.length = T.list.length) := by show _ = _; rw [← eq]; simp
    have l64 : zs.length ≤ 64 := by have := OK.out.len; have := ZL.out; omega
    have s64 : t.size ≤ 64 := by have := (heapOk_iff.1 OK.out.heap).1; rw [← hp, HTree.pre_len, PT.size_tree] at this; exact this
    have nx := OK.out.next
    have ET : Hid ((⟨t.tree.pre, zs.map Tr.x, T.next⟩ : Tms) = T) := by show _ = _; rw [eq, hp]
    have HO := Lib.hid ho
    clear A eq hp hok inT H1 ho
    have MA : Hid (MadeA T W w1 b t D d zs) := ⟨OK.out, K1.out, AL.out, EQ.out, HP.out, HK.out, IN.out⟩
    have CF := Lib.hid (findA_any w1 W.heap.size b d _ t D zs T.next q AL.out (by omega))
    rw [EQ.out] at CF
    clear M0
    go_wp2_with fail
    with_reducible refine CF.out.mono ?_
    rintro e w' ⟨rfl, rfl⟩
    cases hq : atL T.list q with
    | none =>
      have E : Hid ((chgB T q B) = false) := by show _ = _; simp [chgB, hq]
      have EL : Hid ((chgL T q G) = T) := by show _ = _; simp [chgL, HO.out, hq]
      have HQ := Lib.hid hq
      simp only [trAt]
      clear hq CF
      have CS := Lib.hid (shownA_any w1 W.heap.size b d (.pointer none) t D zs (T.next) AL.out (by first | omega | (simp; omega)) (by first | omega | (simp; omega)))
      rw [ET.out] at CS
      go_wp2_with fail
      with_reducible refine CS.out.mono ?_
      rintro e w9 ⟨u, rfl, ⟨hv, lv, rfl, ⟨D1, d1, rfl, o1⟩, ⟨D2, d2, rfl, o2⟩⟩, hk⟩
      have O1 := Lib.hid o1
      have O2 := Lib.hid o2
      have K9 := Lib.hid ((K1.out).trans hk)
      have R9 := Lib.hid (R1.out.kept hk (.inl (Nat.le_refl _)))
      have z9 := K1.out.size
      have y9 := hk.size
      clear o1 o2 hk CS
      have r0 := bx0 R9.out
      have r1 := bx1 R9.out
      have r2 := bx2 R9.out
      have f0 := R9.out.frozen 0
      have f1 := R9.out.frozen 1
      have f2 := R9.out.frozen 2
      have BF := blk3 R9.out (.slice D1 T.heap.length d1) (.slice D2 T.list.length d2) (.int .i64 T.next)
      have F0 := bx0 BF
      have F1 := bx1 BF
      have F2 := bx2 BF
      have KF := kept3 w9 (w.heap.size + 1) (.slice D1 T.heap.length d1) (.slice D2 T.list.length d2) (.int .i64 T.next)
      have KK := Lib.hid KF
      have zF := KF.size
      have FF := Lib.hid (And.intro F0 (And.intro F1 F2))
      clear BF KF F0 F1 F2
      go_wp2_with fail
      obtain ⟨F0, F1, F2⟩ := FF.out
      refine bodyPost_ret (v := .tuple #[.agg #[.slice D1 T.heap.length d1, .slice D2 T.list.length d2, .int .i64 T.next], .bool false]) (by simp [results, Try.results17, go_sem, F0, F1, F2]) rfl ⟨_, ret_ub E.out.symm, ?_, (KV.out.trans K9.out).trans2 KK.out (.inr (by omega))⟩
      rw [EL.out]
      exact ⟨_, _, rfl, ⟨D1, d1, rfl, (O1.out.kept KK.out (.inr (.inr (by omega)))).wide (by omega) zF⟩, ⟨D2, d2, rfl, (O2.out.kept KK.out (.inr (.inr (by omega)))).wide (by omega) zF⟩⟩
    | some k =>
      obtain ⟨hkl, hks⟩ := atL_some hq
      obtain ⟨hz, ez⟩ := map_at EQ.out hkl
      have E : Hid ((chgB T q B) = B k) := by show _ = _; simp [chgB, hq, HO.out]
      have EL : Hid ((chgL T q G) = G k) := by show _ = _; simp [chgL, HO.out, hq]
      have CC := Lib.hid (HC.out W w1 b t D d zs k KV.out MA.out hq hz)
      have HQ := Lib.hid hq
      rw [trAt_some hz]
      clear hq CF hks ez
      go_wp2_with fail
      with_reducible refine CC.out.mono ?_
      rintro e w2 ⟨rfl, par2, t2, D3, d3, zs2, a2, zl2, ts2, e2, fr⟩
      have A2 := Lib.hid a2
      have K2 := Lib.hid (fr W (Nat.le_refl _) K1.out)
      have R2 := Lib.hid (R1.out.sameW K1.out K2.out (by omega))
      have EN := Lib.hid e2
      obtain ⟨Tn, hTn⟩ : ∃ Tn, Tn = G k := ⟨_, rfl⟩
      rw [← hTn] at EN EL
      clear a2 fr e2 hTn CC
      have CS := Lib.hid (shownA_any w2 W.heap.size b d3 par2 t2 D3 zs2 (T.next) A2.out (by first | omega | (simp; omega)) (by first | omega | (simp; omega)))
      rw [EN.out] at CS
      go_wp2_with fail
      with_reducible refine CS.out.mono ?_
      rintro e w9 ⟨u, rfl, ⟨hv, lv, rfl, ⟨D1, d1, rfl, o1⟩, ⟨D2, d2, rfl, o2⟩⟩, hk⟩
      have O1 := Lib.hid o1
      have O2 := Lib.hid o2
      have K9 := Lib.hid ((K2.out).trans hk)
      have R9 := Lib.hid (R2.out.kept hk (.inl (Nat.le_refl _)))
      have z9 := K2.out.size
      have y9 := hk.size
      clear o1 o2 hk CS
      have r0 := bx0 R9.out
      have r1 := bx1 R9.out
      have r2 := bx2 R9.out
      have f0 := R9.out.frozen 0
      have f1 := R9.out.frozen 1
      have f2 := R9.out.frozen 2
      have BF := blk3 R9.out (.slice D1 Tn.heap.length d1) (.slice D2 Tn.list.length d2) (.int .i64 Tn.next)
      have F0 := bx0 BF
      have F1 := bx1 BF
      have F2 := bx2 BF
      have KF := kept3 w9 (w.heap.size + 1) (.slice D1 Tn.heap.length d1) (.slice D2 Tn.list.length d2) (.int .i64 Tn.next)
      have KK := Lib.hid KF
      have zF := KF.size
      have FF := Lib.hid (And.intro F0 (And.intro F1 F2))
      clear BF KF F0 F1 F2
      go_wp2_with fail
      obtain ⟨F0, F1, F2⟩ := FF.out
      refine bodyPost_ret (v := .tuple #[.agg #[.slice D1 Tn.heap.length d1, .slice D2 Tn.list.length d2, .int .i64 Tn.next], .bool (B k)]) (by simp [results, Try.results17, go_sem, F0, F1, F2]) rfl ⟨_, ret_ub E.out.symm, ?_, (KV.out.trans K9.out).trans2 KK.out (.inr (by omega))⟩
      rw [EL.out]
      exact ⟨_, _, rfl, ⟨D1, d1, rfl, (O1.out.kept KK.out (.inr (.inr (by omega)))).wide (by omega) zF⟩, ⟨D2, d2, rfl, (O2.out.kept KK.out (.inr (.inr (by omega)))).wide (by omega) zF⟩⟩

set_option maxHeartbeats 3200000 in
set_option maxRecDepth 100000 in
theorem changedR (cb : Nat) (T : Tms) (q : Int) (G : Nat → Tms) (B : Nat → Bool) (v : Value) (w : World) (h : RdM w w.heap.size v T) (hC : ∀ W w1 b t D d zs k, Kept 0 0 w W → MadeA T W w1 b t D d zs → atL T.list q = some k → ∀ hz : k < zs.length, Calls Try.prog 18 #[toBlk b, toBlk zs[k].p, .pointer (some ⟨cb, 0, none⟩)] w1 (ChgPost T W w1 b (G k) (B k))) :
    Calls Try.prog 17 #[v, .int .i64 q, .func (.func 18) #[] #[.pointer (some ⟨cb, 0, none⟩)]] w fun e w' => ∃ u, e = .returned (.tuple #[u, .bool (chgB T q B)]) ∧ OwnM w' w.heap.size w'.heap.size u (chgL T q G) ∧ Kept 0 0 w w' := by
  have HC := Lib.hid hC
  clear hC
  obtain ⟨hv, lv, rfl, ⟨A1, c1, rfl, s2⟩, ⟨A2, c2, rfl, s3⟩⟩ := h
  have H : Hid (RdM w w.heap.size (.agg #[.slice A1 T.heap.length c1, .slice A2 T.list.length c2, .int .i64 T.next]) T) := ⟨_, _, rfl, ⟨A1, c1, rfl, s2⟩, ⟨A2, c2, rfl, s3⟩⟩
  obtain ⟨W, hW⟩ : ∃ W, W = (w.alloc (.cells #[.slice A1 T.heap.length c1, .slice A2 T.list.length c2, .int .i64 T.next] 27)).alloc (.cells #[.slice none 0 0, .slice none 0 0, .int .i64 0] 27) := ⟨_, rfl⟩
  have KV : Hid (Kept 0 0 w W) := by show Kept _ _ _ _; rw [hW]; exact (Kept.alloc0 _ _).alloc _
  have R0 : Hid (Blk W (w.heap.size + 1) 27 #[.slice none 0 0, .slice none 0 0, .int .i64 0]) := by show Blk _ _ _ _; rw [hW]; exact blk2_new _ _ _ _
  have zW : w.heap.size + 2 ≤ W.heap.size := by rw [hW]; simp
  have CA := Lib.hid (alarmsOf_any T _ W (H.out.up KV.out))
  have HW := Lib.hid hW
  clear s2 s3 hW
  go_enter Try.func17, Try.ntmps17
  go_wp2_with fail
  rw [← HW.out]
  with_reducible refine CA.out.mono ?_
  rintro e w1 ⟨k1, p, rfl, h1⟩
  have K1 := Lib.hid k1
  have H1 := Lib.hid h1
  have R1 := Lib.hid (R0.out.kept k1 (.inl (Nat.le_refl _)))
  have z1 := k1.size
  clear k1 h1 CA HW R0
  cases ho : timersOkB T
  · have E : Hid ((chgB T q B) = false) := by show _ = _; simp [chgL, chgB, ho]
    have E2 : Hid ((chgL T q G) = zeroT) := by show _ = _; simp [chgL, chgB, ho]
    have r0 := bx0 R1.out
    have r1 := bx1 R1.out
    have r2 := bx2 R1.out
    have f0 := R1.out.frozen 0
    have f1 := R1.out.frozen 1
    have f2 := R1.out.frozen 2
    have BF := blk3 R1.out (.slice none 0 0) (.slice none 0 0) (.int .i64 0)
    have F0 := bx0 BF
    have F1 := bx1 BF
    have F2 := bx2 BF
    clear ho BF
    go_wp2_with fail
    exact bodyPost_ret (v := .tuple #[.agg #[.slice none 0 0, .slice none 0 0, .int .i64 0], .bool false]) (by simp [results, Try.results17, go_sem, F0, F1, F2]) rfl ⟨_, ret_ub E.out.symm, by rw [E2.out]; exact zero_own _ _ _, (KV.out.trans K1.out).trans2 (kept3 _ _ _ _ _) (.inr (by omega))⟩
  · have M0 : Hid (∃ b t D d zs, p = some ⟨b, 0, none⟩ ∧ MadeA T W w1 b t D d zs) := by
      obtain ⟨b, t, D, d, zs, e, A, eq, hp, hok, inT⟩ := H1.out ho
      exact ⟨b, t, D, d, zs, e, timersOk_iff.1 ho, K1.out, A, eq, hp, hok, inT⟩
    obtain ⟨b, t, D, d, zs, rfl, A, eq, hp, hok, inT⟩ := H1.out ho
    have OK := Lib.hid (timersOk_iff.1 ho)
    have AL := Lib.hid A
    have EQ := Lib.hid eq
    have HP := Lib.hid hp
    have HK := Lib.hid hok
    have IN := Lib.hid inT
    have ZL : Hid (zs.length = T.list.length) := by show _ = _; rw [← eq]; simp
    have l64 : zs.length ≤ 64 := by have := OK.out.len; have := ZL.out; omega
    have s64 : t.size ≤ 64 := by have := (heapOk_iff.1 OK.out.heap).1; rw [← hp, HTree.pre_len, PT.size_tree] at this; exact this
    have nx := OK.out.next
    have ET : Hid ((⟨t.tree.pre, zs.map Tr.x, T.next⟩ : Tms) = T) := by show _ = _; rw [eq, hp]
    have HO := Lib.hid ho
    clear A eq hp hok inT H1 ho
    have MA : Hid (MadeA T W w1 b t D d zs) := ⟨OK.out, K1.out, AL.out, EQ.out, HP.out, HK.out, IN.out⟩
    have CF := Lib.hid (findA_any w1 W.heap.size b d _ t D zs T.next q AL.out (by omega))
    rw [EQ.out] at CF
    clear M0
    go_wp2_with fail
    with_reducible refine CF.out.mono ?_
    rintro e w' ⟨rfl, rfl⟩
    cases hq : atL T.list q with
    | none =>
      have E : Hid ((chgB T q B) = false) := by show _ = _; simp [chgB, hq]
      have EL : Hid ((chgL T q G) = T) := by show _ = _; simp [chgL, HO.out, hq]
      have HQ := Lib.hid hq
      simp only [trAt]
      clear hq CF
      have CS := Lib.hid (shownA_any w1 W.heap.size b d (.pointer none) t D zs (T.next) AL.out (by first | omega | (simp; omega)) (by first | omega | (simp; omega)))
      rw [ET.out] at CS
      go_wp2_with fail
      with_reducible refine CS.out.mono ?_
      rintro e w9 ⟨u, rfl, ⟨hv, lv, rfl, ⟨D1, d1, rfl, o1⟩, ⟨D2, d2, rfl, o2⟩⟩, hk⟩
      have O1 := Lib.hid o1
      have O2 := Lib.hid o2
      have K9 := Lib.hid ((K1.out).trans hk)
      have R9 := Lib.hid (R1.out.kept hk (.inl (Nat.le_refl _)))
      have z9 := K1.out.size
      have y9 := hk.size
      clear o1 o2 hk CS
      have r0 := bx0 R9.out
      have r1 := bx1 R9.out
      have r2 := bx2 R9.out
      have f0 := R9.out.frozen 0
      have f1 := R9.out.frozen 1
      have f2 := R9.out.frozen 2
      have BF := blk3 R9.out (.slice D1 T.heap.length d1) (.slice D2 T.list.length d2) (.int .i64 T.next)
      have F0 := bx0 BF
      have F1 := bx1 BF
      have F2 := bx2 BF
      have KF := kept3 w9 (w.heap.size + 1) (.slice D1 T.heap.length d1) (.slice D2 T.list.length d2) (.int .i64 T.next)
      have KK := Lib.hid KF
      have zF := KF.size
      have FF := Lib.hid (And.intro F0 (And.intro F1 F2))
      clear BF KF F0 F1 F2
      go_wp2_with fail
      obtain ⟨F0, F1, F2⟩ := FF.out
      refine bodyPost_ret (v := .tuple #[.agg #[.slice D1 T.heap.length d1, .slice D2 T.list.length d2, .int .i64 T.next], .bool false]) (by simp [results, Try.results17, go_sem, F0, F1, F2]) rfl ⟨_, ret_ub E.out.symm, ?_, (KV.out.trans K9.out).trans2 KK.out (.inr (by omega))⟩
      rw [EL.out]
      exact ⟨_, _, rfl, ⟨D1, d1, rfl, (O1.out.kept KK.out (.inr (.inr (by omega)))).wide (by omega) zF⟩, ⟨D2, d2, rfl, (O2.out.kept KK.out (.inr (.inr (by omega)))).wide (by omega) zF⟩⟩
    | some k =>
      obtain ⟨hkl, hks⟩ := atL_some hq
      obtain ⟨hz, ez⟩ := map_at EQ.out hkl
      have E : Hid ((chgB T q B) = B k) := by show _ = _; simp [chgB, hq, HO.out]
      have EL : Hid ((chgL T q G) = G k) := by show _ = _; simp [chgL, HO.out, hq]
      have CC := Lib.hid (HC.out W w1 b t D d zs k KV.out MA.out hq hz)
      have HQ := Lib.hid hq
      rw [trAt_some hz]
      clear hq CF hks ez
      go_wp2_with fail
      with_reducible refine CC.out.mono ?_
      rintro e w2 ⟨rfl, par2, t2, D3, d3, zs2, a2, zl2, ts2, e2, fr⟩
      have A2 := Lib.hid a2
      have K2 := Lib.hid (fr W (Nat.le_refl _) K1.out)
      have R2 := Lib.hid (R1.out.sameW K1.out K2.out (by omega))
      have EN := Lib.hid e2
      obtain ⟨Tn, hTn⟩ : ∃ Tn, Tn = G k := ⟨_, rfl⟩
      rw [← hTn] at EN EL
      clear a2 fr e2 hTn CC
      have CS := Lib.hid (shownA_any w2 W.heap.size b d3 par2 t2 D3 zs2 (T.next) A2.out (by first | omega | (simp; omega)) (by first | omega | (simp; omega)))
      rw [EN.out] at CS
      go_wp2_with fail
      with_reducible refine CS.out.mono ?_
      rintro e w9 ⟨u, rfl, ⟨hv, lv, rfl, ⟨D1, d1, rfl, o1⟩, ⟨D2, d2, rfl, o2⟩⟩, hk⟩
      have O1 := Lib.hid o1
      have O2 := Lib.hid o2
      have K9 := Lib.hid ((K2.out).trans hk)
      have R9 := Lib.hid (R2.out.kept hk (.inl (Nat.le_refl _)))
      have z9 := K2.out.size
      have y9 := hk.size
      clear o1 o2 hk CS
      have r0 := bx0 R9.out
      have r1 := bx1 R9.out
      have r2 := bx2 R9.out
      have f0 := R9.out.frozen 0
      have f1 := R9.out.frozen 1
      have f2 := R9.out.frozen 2
      have BF := blk3 R9.out (.slice D1 Tn.heap.length d1) (.slice D2 Tn.list.length d2) (.int .i64 Tn.next)
      have F0 := bx0 BF
      have F1 := bx1 BF
      have F2 := bx2 BF
      have KF := kept3 w9 (w.heap.size + 1) (.slice D1 Tn.heap.length d1) (.slice D2 Tn.list.length d2) (.int .i64 Tn.next)
      have KK := Lib.hid KF
      have zF := KF.size
      have FF := Lib.hid (And.intro F0 (And.intro F1 F2))
      clear BF KF F0 F1 F2
      go_wp2_with fail
      obtain ⟨F0, F1, F2⟩ := FF.out
      refine bodyPost_ret (v := .tuple #[.agg #[.slice D1 Tn.heap.length d1, .slice D2 Tn.list.length d2, .int .i64 Tn.next], .bool (B k)]) (by simp [results, Try.results17, go_sem, F0, F1, F2]) rfl ⟨_, ret_ub E.out.symm, ?_, (KV.out.trans K9.out).trans2 KK.out (.inr (by omega))⟩
      rw [EL.out]
      exact ⟨_, _, rfl, ⟨D1, d1, rfl, (O1.out.kept KK.out (.inr (.inr (by omega)))).wide (by omega) zF⟩, ⟨D2, d2, rfl, (O2.out.kept KK.out (.inr (.inr (by omega)))).wide (by omega) zF⟩⟩
end Go.Proofs.Ytnphjohmkjoefaa
