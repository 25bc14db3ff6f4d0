/- The program's TimersOk, NextDue and Armed; no condition beyond that the timers can be read. -/
import Derived.Test.YtgphakpcenlplaaQg
namespace Go.Proofs.Ytgphakpcenlplaa
open Go.RowKit Go.Sort

/-! ### On paper -/
theorem one_tree (g : Nat) (d s : Int) : (oneP g d s).tree = .node d s .nil .nil := rfl
theorem one_ok (d s : Int) : (HTree.node d s .nil .nil).ok = true := by simp [HTree.ok, HTree.under, HTree.rank]
theorem one_pre (d s : Int) : (HTree.node d s .nil .nil).pre = [⟨d, s, 0⟩] := by simp [HTree.pre, HTree.size]
theorem heap_one (d s : Int) : heapOkB [⟨d, s, 0⟩] = true := by
  refine heapOk_iff.2 ⟨by simp, by simp [twiceB], ?_⟩
  rw [← one_pre, rankL_pre _ (one_ok d s)]
  omega
theorem merged_one {xs : List Tw} {due q : Int} (ho : heapOkB xs = true) (hl : xs.length + 1 ≤ 64) (hn : ∀ y ∈ xs, y.seq ≠ q) : mergedOk xs [⟨due, q, 0⟩] = true := by
  refine mergedOk_iff.2 ⟨ho, heap_one _ _, by simpa using hl, ?_⟩
  have hu := heap_nd ho
  simp only [twiceB, Bool.not_eq_false', decide_eq_true_eq, List.map_append, List.nodup_append]
  refine ⟨hu, by simp, ?_⟩
  intro a ha c hc e
  simp at hc
  obtain ⟨y, hy, rfl⟩ := List.mem_map.1 ha
  exact hn y hy (by rw [e, hc])
/-- One element more. -/
theorem put_pre {t : PT} {xs : List Tw} {due q : Int} (g : Nat) (hp : t.tree.pre = xs) (hok : t.tree.ok = true) (ho : heapOkB xs = true) (hl : xs.length + 1 ≤ 64) (hn : ∀ y ∈ xs, y.seq ≠ q) : (mergeP t (oneP g due q)).tree.pre = putL xs due q := by
  have hm := merged_one (due := due) ho hl hn
  have ht : treeOf xs = t.tree := by rw [← hp]; exact treeOf_of _ hok
  have h1 : treeOf [⟨due, q, 0⟩] = .node due q .nil .nil := by rw [← one_pre]; exact treeOf_of _ (one_ok due q)
  have ha : apart t.tree (oneP g due q).tree := by
    intro x hx y hy e
    rw [one_tree] at hy
    simp [HTree.els] at hy
    subst hy
    rw [els_pre, hp] at hx
    obtain ⟨z, hz, rfl⟩ := List.mem_map.1 hx
    exact hn z hz e
  rw [putL, mergedL, if_pos hm, ht, h1, mergeP_tree _ _ ha, one_tree]
theorem next_new {T : Tms} (o : TmsOk T) : ∀ y ∈ T.heap, y.seq ≠ T.next := by
  intro y hy e
  obtain ⟨x, hx, e1, _⟩ := o.armed y hy
  have := (tmOk_iff.1 (o.each x hx)).1.2
  omega
theorem heap_le {T : Tms} (o : TmsOk T) : T.heap.length ≤ T.list.length := by rw [← o.count]; exact List.length_filter_le _ _
theorem armOk_eq (T : Tms) (due what whom : Int) (h0 : 0 ≤ T.next) : armOk T due what whom = (!(decide (T.list.length = 64)) && !(decide (T.next = 1000000)) && purposeB what whom) := by
  unfold armOk
  rw [tmOk_purpose]
  have h1 : decide (0 ≤ T.next) = true := by simpa using h0
  have h2 : decide (T.next ≤ T.next + 1 - 1) = true := by simp
  simp only [h1, h2, Bool.true_and]

/-! ### The program -/
set_option maxHeartbeats 400000 in
theorem implTimersOk (T : Tms) (v : Value) (w : World) (h : RdM w w.heap.size v T) :
    Calls Try.prog 11 #[v] w fun e w' => e = .returned (.bool (timersOkB T)) ∧ Kept 0 0 w w' := by
  obtain ⟨hv, lv, rfl, ⟨A1, c1, rfl, s2⟩, ⟨A2, c2, rfl, s3⟩⟩ := h
  have H : Hid (RdM w w.heap.size (.agg #[.slice A1 T.heap.length c1, .slice A2 T.list.length c2, .int .i64 T.next]) T) := ⟨_, _, rfl, ⟨A1, c1, rfl, s2⟩, ⟨A2, c2, rfl, s3⟩⟩
  obtain ⟨W, hW⟩ : ∃ W, W = w.alloc (.cells #[.slice A1 T.heap.length c1, .slice A2 T.list.length c2, .int .i64 T.next] 30) := ⟨_, rfl⟩
  have KV : Hid (Kept 0 0 w W) := by show Kept _ _ _ _; rw [hW]; exact Kept.alloc0 _ _
  have CA := Lib.hid (alarmsOf_any T _ W (H.out.up KV.out))
  have HW := Lib.hid hW
  clear s2 s3 hW
  go_enter Try.func11, Try.ntmps11
  go_wp2_with fail
  rw [← HW.out]
  with_reducible refine CA.out.mono ?_
  rintro e w1 ⟨k1, p, rfl, h1⟩
  have K1 := Lib.hid k1
  clear k1 h1 CA HW
  go_wp2_with fail
  go_ret
  exact ⟨rfl, KV.out.trans K1.out⟩
set_option maxHeartbeats 800000 in
theorem implNextDue (T : Tms) (v : Value) (w : World) (h : RdM w w.heap.size v T) :
    Calls Try.prog 12 #[v] w fun e w' => e = .returned (.int .i64 (nextDueI T)) ∧ Kept 0 0 w w' := by
  obtain ⟨hv, lv, rfl, ⟨A1, c1, rfl, s2⟩, ⟨A2, c2, rfl, s3⟩⟩ := h
  have H : Hid (RdM w w.heap.size (.agg #[.slice A1 T.heap.length c1, .slice A2 T.list.length c2, .int .i64 T.next]) T) := ⟨_, _, rfl, ⟨A1, c1, rfl, s2⟩, ⟨A2, c2, rfl, s3⟩⟩
  obtain ⟨W, hW⟩ : ∃ W, W = w.alloc (.cells #[.slice A1 T.heap.length c1, .slice A2 T.list.length c2, .int .i64 T.next] 30) := ⟨_, rfl⟩
  have KV : Hid (Kept 0 0 w W) := by show Kept _ _ _ _; rw [hW]; exact Kept.alloc0 _ _
  have CA := Lib.hid (alarmsOf_any T _ W (H.out.up KV.out))
  have HW := Lib.hid hW
  clear s2 s3 hW
  go_enter Try.func12, Try.ntmps12
  go_wp2_with fail
  rw [← HW.out]
  with_reducible refine CA.out.mono ?_
  rintro e w1 ⟨k1, p, rfl, h1⟩
  have K1 := Lib.hid k1
  have H1 := Lib.hid h1
  clear k1 h1 CA HW
  cases ho : timersOkB T
  · have E : Hid (nextDueI T = 9223372036854775807) := by show _ = _; simp [nextDueI, ho]
    clear ho
    go_wp2_with fail
    go_ret
    exact ⟨ret_int E.out.symm, KV.out.trans K1.out⟩
  · obtain ⟨b, t, D, d, zs, rfl, A, eq, hp, hok, inT⟩ := H1.out ho
    cases t with
    | nil =>
      have E : Hid (nextDueI T = 9223372036854775807) := by show _ = _; rw [nextDueI, ho, if_pos rfl, nextDueN, ← hp]; rfl
      have b0 : w1.cell? ⟨b, 0, none⟩ = some (.pointer none) := bx0 A.blk
      clear ho A eq hp hok inT H1
      go_wp2_with fail
      go_ret
      exact ⟨ret_int E.out.symm, KV.out.trans K1.out⟩
    | node g du s l r =>
      have E : Hid (nextDueI T = du) := by show _ = _; rw [nextDueI, ho, if_pos rfl, nextDueN, ← hp]; rfl
      have c0 := (A.lay.el (g, du, s) (by simp [PT.elems])).c0
      simp only at c0
      have b0 : w1.cell? ⟨b, 0, none⟩ = some (toBlk g) := bx0 A.blk
      clear ho A eq hp hok inT H1
      go_wp2_with fail
      go_ret
      exact ⟨ret_int E.out.symm, KV.out.trans K1.out⟩
set_option maxHeartbeats 3200000 in
theorem implArmed : DoesMA 8 armL armI := by
  intro T due what whom v w h
  obtain ⟨hv, lv, rfl, ⟨A1, c1, rfl, s2⟩, ⟨A2, c2, rfl, s3⟩⟩ := h
  have H : Hid (RdM w w.heap.size (.agg #[.slice A1 T.heap.length c1, .slice A2 T.list.length c2, .int .i64 T.next]) T) := ⟨_, _, rfl, ⟨A1, c1, rfl, s2⟩, ⟨A2, c2, rfl, s3⟩⟩
  obtain ⟨W, hW⟩ : ∃ W, W = (w.alloc (.cells #[.slice A1 T.heap.length c1, .slice A2 T.list.length c2, .int .i64 T.next] 30)).alloc (.cells #[.slice none 0 0, .slice none 0 0, .int .i64 0] 30) := ⟨_, rfl⟩
  have KV : Hid (Kept 0 0 w W) := by show Kept _ _ _ _; rw [hW]; exact (Kept.alloc0 _ _).alloc _
  have R0 : Hid (Blk W (w.heap.size + 1) 30 #[.slice none 0 0, .slice none 0 0, .int .i64 0]) := by show Blk _ _ _ _; rw [hW]; exact blk2_new _ _ _ _
  have zW : w.heap.size + 2 ≤ W.heap.size := by rw [hW]; simp
  have CA := Lib.hid (alarmsOf_any T _ W (H.out.up KV.out))
  have HW := Lib.hid hW
  clear s2 s3 hW
  go_enter Try.func8, Try.ntmps8
  go_wp2_with fail
  rw [← HW.out]
  with_reducible refine CA.out.mono ?_
  rintro e w1 ⟨k1, p, rfl, h1⟩
  have K1 := Lib.hid k1
  have H1 := Lib.hid h1
  have R1 := Lib.hid (R0.out.kept k1 (.inl (Nat.le_refl _)))
  have z1 := k1.size
  clear k1 h1 CA HW R0
  cases ho : timersOkB T
  · have E : Hid (armI T due what whom = -1) := by show _ = _; simp [armI, ho]
    have E2 : Hid (armL T due what whom = zeroT) := by show _ = _; simp [armL, ho]
    have r0 := bx0 R1.out
    have r1 := bx1 R1.out
    have r2 := bx2 R1.out
    have f0 := R1.out.frozen 0
    have f1 := R1.out.frozen 1
    have f2 := R1.out.frozen 2
    have BF := blk3 R1.out (.slice none 0 0) (.slice none 0 0) (.int .i64 0)
    have F0 := bx0 BF
    have F1 := bx1 BF
    have F2 := bx2 BF
    clear ho BF
    go_wp2_with fail
    exact bodyPost_ret (v := .tuple #[.agg #[.slice none 0 0, .slice none 0 0, .int .i64 0], .int .i64 (-1)]) (by simp [results, Try.results8, go_sem, F0, F1, F2]) rfl ⟨_, ret_ui E.out.symm, by rw [E2.out]; exact zero_own _ _ _, (KV.out.trans K1.out).trans2 (kept3 _ _ _ _ _) (.inr (by omega))⟩
  · obtain ⟨b, t, D, d, zs, rfl, A, eq, hp, hok, inT⟩ := H1.out ho
    have OK := Lib.hid (timersOk_iff.1 ho)
    have AL := Lib.hid A
    have EQ := Lib.hid eq
    have HP := Lib.hid hp
    have HK := Lib.hid hok
    have IN := Lib.hid inT
    have ZL : Hid (zs.length = T.list.length) := by show _ = _; rw [← eq]; simp
    have l64 : zs.length ≤ 64 := by have := OK.out.len; have := ZL.out; omega
    have s64 : t.size ≤ 64 := by have := (heapOk_iff.1 OK.out.heap).1; rw [← hp, HTree.pre_len, PT.size_tree] at this; exact this
    have nx := OK.out.next
    have ET : Hid ((⟨t.tree.pre, zs.map Tr.x, T.next⟩ : Tms) = T) := by show _ = _; rw [eq, hp]
    have HO := Lib.hid ho
    clear A eq hp hok inT H1 ho
    have AE := Lib.hid (armOk_eq T due what whom nx.1)
    have b1 := bx1 AL.out.blk
    have b2 := bx2 AL.out.blk
    by_cases h64 : zs.length = 64
    · have g1 : ((zs.length : Int) == 64) = true := by simp; omega
      have HM : Hid (armOk T due what whom = false) := by show _ = _; rw [AE.out, decide_eq_true (by have := ZL.out; omega : T.list.length = 64)]; rfl
      clear h64
      have E := Lib.hid (show armI T due what whom = -1 by simp [armI, HO.out, HM.out])
      have EL := Lib.hid (show armL T due what whom = T by simp [armL, HO.out, HM.out])
      have CS := Lib.hid (shownA_any w1 W.heap.size b d (.pointer none) t D zs (T.next) AL.out (by first | omega | (simp; omega)) (by first | omega | (simp; omega)))
      rw [ET.out] at CS
      go_wp2_with fail
      with_reducible refine CS.out.mono ?_
      rintro e w9 ⟨u, rfl, ⟨hv, lv, rfl, ⟨D1, d1, rfl, o1⟩, ⟨D2, d2, rfl, o2⟩⟩, hk⟩
      have O1 := Lib.hid o1
      have O2 := Lib.hid o2
      have K9 := Lib.hid ((K1.out).trans hk)
      have R9 := Lib.hid (R1.out.kept hk (.inl (Nat.le_refl _)))
      have z9 := K1.out.size
      have y9 := hk.size
      clear o1 o2 hk CS
      have r0 := bx0 R9.out
      have r1 := bx1 R9.out
      have r2 := bx2 R9.out
      have f0 := R9.out.frozen 0
      have f1 := R9.out.frozen 1
      have f2 := R9.out.frozen 2
      have BF := blk3 R9.out (.slice D1 T.heap.length d1) (.slice D2 T.list.length d2) (.int .i64 T.next)
      have F0 := bx0 BF
      have F1 := bx1 BF
      have F2 := bx2 BF
      have KF := kept3 w9 (w.heap.size + 1) (.slice D1 T.heap.length d1) (.slice D2 T.list.length d2) (.int .i64 T.next)
      have KK := Lib.hid KF
      have zF := KF.size
      have FF := Lib.hid (And.intro F0 (And.intro F1 F2))
      clear BF KF F0 F1 F2
      go_wp2_with fail
      obtain ⟨F0, F1, F2⟩ := FF.out
      refine bodyPost_ret (v := .tuple #[.agg #[.slice D1 T.heap.length d1, .slice D2 T.list.length d2, .int .i64 T.next], .int .i64 (-1)]) (by simp [results, Try.results8, go_sem, F0, F1, F2]) rfl ⟨_, ret_ui E.out.symm, ?_, (KV.out.trans K9.out).trans2 KK.out (.inr (by omega))⟩
      rw [EL.out]
      exact ⟨_, _, rfl, ⟨D1, d1, rfl, (O1.out.kept KK.out (.inr (.inr (by omega)))).wide (by omega) zF⟩, ⟨D2, d2, rfl, (O2.out.kept KK.out (.inr (.inr (by omega)))).wide (by omega) zF⟩⟩
    · have g1 : ((zs.length : Int) == 64) = false := by simp; omega
      by_cases hx : T.next = 1000000
      · have g2 : (T.next == 1000000) = true := by simpa using hx
        have HM : Hid (armOk T due what whom = false) := by show _ = _; rw [AE.out, decide_eq_true hx]; simp
        clear hx
        have E := Lib.hid (show armI T due what whom = -1 by simp [armI, HO.out, HM.out])
        have EL := Lib.hid (show armL T due what whom = T by simp [armL, HO.out, HM.out])
        have CS := Lib.hid (shownA_any w1 W.heap.size b d (.pointer none) t D zs (T.next) AL.out (by first | omega | (simp; omega)) (by first | omega | (simp; omega)))
        rw [ET.out] at CS
        go_wp2_with fail
        with_reducible refine CS.out.mono ?_
        rintro e w9 ⟨u, rfl, ⟨hv, lv, rfl, ⟨D1, d1, rfl, o1⟩, ⟨D2, d2, rfl, o2⟩⟩, hk⟩
        have O1 := Lib.hid o1
        have O2 := Lib.hid o2
        have K9 := Lib.hid ((K1.out).trans hk)
        have R9 := Lib.hid (R1.out.kept hk (.inl (Nat.le_refl _)))
        have z9 := K1.out.size
        have y9 := hk.size
        clear o1 o2 hk CS
        have r0 := bx0 R9.out
        have r1 := bx1 R9.out
        have r2 := bx2 R9.out
        have f0 := R9.out.frozen 0
        have f1 := R9.out.frozen 1
        have f2 := R9.out.frozen 2
        have BF := blk3 R9.out (.slice D1 T.heap.length d1) (.slice D2 T.list.length d2) (.int .i64 T.next)
        have F0 := bx0 BF
        have F1 := bx1 BF
        have F2 := bx2 BF
        have KF := kept3 w9 (w.heap.size + 1) (.slice D1 T.heap.length d1) (.slice D2 T.list.length d2) (.int .i64 T.next)
        have KK := Lib.hid KF
        have zF := KF.size
        have FF := Lib.hid (And.intro F0 (And.intro F1 F2))
        clear BF KF F0 F1 F2
        go_wp2_with fail
        obtain ⟨F0, F1, F2⟩ := FF.out
        refine bodyPost_ret (v := .tuple #[.agg #[.slice D1 T.heap.length d1, .slice D2 T.list.length d2, .int .i64 T.next], .int .i64 (-1)]) (by simp [results, Try.results8, go_sem, F0, F1, F2]) rfl ⟨_, ret_ui E.out.symm, ?_, (KV.out.trans K9.out).trans2 KK.out (.inr (by omega))⟩
        rw [EL.out]
        exact ⟨_, _, rfl, ⟨D1, d1, rfl, (O1.out.kept KK.out (.inr (.inr (by omega)))).wide (by omega) zF⟩, ⟨D2, d2, rfl, (O2.out.kept KK.out (.inr (.inr (by omega)))).wide (by omega) zF⟩⟩
      · have g2 : (T.next == 1000000) = false := by simpa using hx
        cases hq : purposeB what whom
        · have HM : Hid (armOk T due what whom = false) := by show _ = _; rw [AE.out, hq]; simp
          have HQ := Lib.hid hq
          clear hq
          go_wp2_with fail
          with_reducible refine (purpose_any _ _ _).mono ?_
          rintro e w' ⟨rfl, rfl⟩
          rw [HQ.out]
          have E := Lib.hid (show armI T due what whom = -1 by simp [armI, HO.out, HM.out])
          have EL := Lib.hid (show armL T due what whom = T by simp [armL, HO.out, HM.out])
          have CS := Lib.hid (shownA_any w1 W.heap.size b d (.pointer none) t D zs (T.next) AL.out (by first | omega | (simp; omega)) (by first | omega | (simp; omega)))
          rw [ET.out] at CS
          go_wp2_with fail
          with_reducible refine CS.out.mono ?_
          rintro e w9 ⟨u, rfl, ⟨hv, lv, rfl, ⟨D1, d1, rfl, o1⟩, ⟨D2, d2, rfl, o2⟩⟩, hk⟩
          have O1 := Lib.hid o1
          have O2 := Lib.hid o2
          have K9 := Lib.hid ((K1.out).trans hk)
          have R9 := Lib.hid (R1.out.kept hk (.inl (Nat.le_refl _)))
          have z9 := K1.out.size
          have y9 := hk.size
          clear o1 o2 hk CS
          have r0 := bx0 R9.out
          have r1 := bx1 R9.out
          have r2 := bx2 R9.out
          have f0 := R9.out.frozen 0
          have f1 := R9.out.frozen 1
          have f2 := R9.out.frozen 2
          have BF := blk3 R9.out (.slice D1 T.heap.length d1) (.slice D2 T.list.length d2) (.int .i64 T.next)
          have F0 := bx0 BF
          have F1 := bx1 BF
          have F2 := bx2 BF
          have KF := kept3 w9 (w.heap.size + 1) (.slice D1 T.heap.length d1) (.slice D2 T.list.length d2) (.int .i64 T.next)
          have KK := Lib.hid KF
          have zF := KF.size
          have FF := Lib.hid (And.intro F0 (And.intro F1 F2))
          clear BF KF F0 F1 F2
          go_wp2_with fail
          obtain ⟨F0, F1, F2⟩ := FF.out
          refine bodyPost_ret (v := .tuple #[.agg #[.slice D1 T.heap.length d1, .slice D2 T.list.length d2, .int .i64 T.next], .int .i64 (-1)]) (by simp [results, Try.results8, go_sem, F0, F1, F2]) rfl ⟨_, ret_ui E.out.symm, ?_, (KV.out.trans K9.out).trans2 KK.out (.inr (by omega))⟩
          rw [EL.out]
          exact ⟨_, _, rfl, ⟨D1, d1, rfl, (O1.out.kept KK.out (.inr (.inr (by omega)))).wide (by omega) zF⟩, ⟨D2, d2, rfl, (O2.out.kept KK.out (.inr (.inr (by omega)))).wide (by omega) zF⟩⟩
        · have HM : Hid (armOk T due what whom = true) := by show _ = _; rw [AE.out, hq, decide_eq_false hx, decide_eq_false (by have := ZL.out; omega : ¬ T.list.length = 64)]; rfl
          have HQ := Lib.hid hq
          have CC := Lib.hid (create_any w1 W.heap.size b d _ t D zs T.next due what whom AL.out l64 (by omega) nx.1 (by omega))
          clear hq
          go_wp2_with fail
          with_reducible refine (purpose_any _ _ _).mono ?_
          rintro e w' ⟨rfl, rfl⟩
          rw [HQ.out]
          go_wp2_with fail
          with_reducible refine CC.out.mono ?_
          rintro e w2 ⟨rfl, ⟨par2, D3, d3, p3, g3, a3⟩, fr⟩
          have A3 := Lib.hid a3
          have K2 := Lib.hid (fr W (Nat.le_refl _) K1.out)
          have R2 : Hid (Blk w2 (w.heap.size + 1) 30 #[.slice none 0 0, .slice none 0 0, .int .i64 0]) := by
            have := R1.out
            have h2 : w2.heap[w.heap.size + 1]? = W.heap[w.heap.size + 1]? := K2.out.block _ (by omega) (.inr (Nat.zero_le _))
            have h1 : w1.heap[w.heap.size + 1]? = W.heap[w.heap.size + 1]? := K1.out.block _ (by omega) (.inr (Nat.zero_le _))
            exact h2.trans (h1.symm.trans this)
          obtain ⟨Tn, hTn⟩ : ∃ Tn, Tn = armL T due what whom := ⟨_, rfl⟩
          have EL : Hid (armL T due what whom = Tn) := hTn.symm
          have E := Lib.hid (show armI T due what whom = T.next by simp [armI, HO.out, HM.out])
          have EN : Hid ((⟨(mergeP t (oneP g3 due T.next)).tree.pre, (zs ++ [(⟨p3, g3, ⟨T.next, due, what, whom, true⟩⟩ : Tr)]).map Tr.x, T.next + 1⟩ : Tms) = Tn) := by
            show _ = _
            rw [hTn, armL, HO.out, HM.out, if_pos rfl, if_pos rfl, List.map_append, EQ.out, put_pre g3 HP.out HK.out OK.out.heap (by have := heap_le OK.out; have := ZL.out; omega) (next_new OK.out)]
            rfl
          have sm : (mergeP t (oneP g3 due T.next)).size ≤ 1000 := by rw [mergeP_size]; simp [oneP, PT.size]; omega
          clear a3 fr CC hTn
          have CS := Lib.hid (shownA_any w2 W.heap.size b d3 par2 (mergeP t (oneP g3 due T.next)) D3 (zs ++ [(⟨p3, g3, ⟨T.next, due, what, whom, true⟩⟩ : Tr)]) (T.next + 1) A3.out (by first | omega | (simp; omega)) (by first | omega | (simp; omega)))
          rw [EN.out] at CS
          go_wp2_with fail
          with_reducible refine CS.out.mono ?_
          rintro e w9 ⟨u, rfl, ⟨hv, lv, rfl, ⟨D1, d1, rfl, o1⟩, ⟨D2, d2, rfl, o2⟩⟩, hk⟩
          have O1 := Lib.hid o1
          have O2 := Lib.hid o2
          have K9 := Lib.hid ((K2.out).trans hk)
          have R9 := Lib.hid (R2.out.kept hk (.inl (Nat.le_refl _)))
          have z9 := K2.out.size
          have y9 := hk.size
          clear o1 o2 hk CS
          have r0 := bx0 R9.out
          have r1 := bx1 R9.out
          have r2 := bx2 R9.out
          have f0 := R9.out.frozen 0
          have f1 := R9.out.frozen 1
          have f2 := R9.out.frozen 2
          have BF := blk3 R9.out (.slice D1 Tn.heap.length d1) (.slice D2 Tn.list.length d2) (.int .i64 Tn.next)
          have F0 := bx0 BF
          have F1 := bx1 BF
          have F2 := bx2 BF
          have KF := kept3 w9 (w.heap.size + 1) (.slice D1 Tn.heap.length d1) (.slice D2 Tn.list.length d2) (.int .i64 Tn.next)
          have KK := Lib.hid KF
          have zF := KF.size
          have FF := Lib.hid (And.intro F0 (And.intro F1 F2))
          clear BF KF F0 F1 F2
          go_wp2_with fail
          obtain ⟨F0, F1, F2⟩ := FF.out
          refine bodyPost_ret (v := .tuple #[.agg #[.slice D1 Tn.heap.length d1, .slice D2 Tn.list.length d2, .int .i64 Tn.next], .int .i64 T.next]) (by simp [results, Try.results8, go_sem, F0, F1, F2]) rfl ⟨_, ret_ui E.out.symm, ?_, (KV.out.trans K9.out).trans2 KK.out (.inr (by omega))⟩
          rw [EL.out]
          exact ⟨_, _, rfl, ⟨D1, d1, rfl, (O1.out.kept KK.out (.inr (.inr (by omega)))).wide (by omega) zF⟩, ⟨D2, d2, rfl, (O2.out.kept KK.out (.inr (.inr (by omega)))).wide (by omega) zF⟩⟩
end Go.Proofs.Ytgphakpcenlplaa
