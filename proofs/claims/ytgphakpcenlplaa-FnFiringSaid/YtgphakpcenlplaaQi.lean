/- The program's Fired; no condition beyond that the timers can be read. -/
import Derived.Test.YtgphakpcenlplaaQh
namespace Go.Proofs.Ytgphakpcenlplaa
open Go.RowKit Go.Sort

set_option maxHeartbeats 400000 in
theorem dueI_any (now a : Int) (w : World) : Calls Try.prog 25 #[.int .i64 now, .int .i64 a] w fun e w' => e = .returned (.bool (isDueB now a)) ∧ w = w' := by
  have E : Hid (isDueB now a = (decide (a ≤ now) && decide (a ≠ 9223372036854775807))) := by show _ = _; rfl
  go_enter Try.func25, Try.ntmps25
  by_cases h1 : a ≤ now
  · by_cases h2 : a = 9223372036854775807
    · subst h2
      go_wp2_with fail
      go_ret
      exact ⟨by rw [E.out]; simp, rfl⟩
    · have h3 : (a == 9223372036854775807) = false := by simp [h2]
      have h4 : (a != 9223372036854775807) = true := by simp [h2]
      go_wp2_with fail
      go_ret
      exact ⟨by rw [E.out]; simp [h1, h2], rfl⟩
  · go_wp2_with fail
    go_ret
    exact ⟨by rw [E.out, decide_eq_false (by omega : ¬ a ≤ now)]; rfl, rfl⟩
theorem shift_pre {xs : List Tw} {g : Nat} {d s : Int} {l r : PT} (hp : (PT.node g d s l r).tree.pre = xs) (hok : (PT.node g d s l r).tree.ok = true) (ho : heapOkB xs = true) : shiftedL xs = (mergeP l r).tree.pre := by
  have hs : shiftOk xs = true := by rw [shiftOk, ho, ← hp]; rfl
  have ht : treeOf xs = (PT.node g d s l r).tree := by rw [← hp]; exact treeOf_of _ hok
  have hu : uniq (PT.node g d s l r).tree := uniq_pre (by rw [hp]; exact (heapOk_iff.1 ho).2.1)
  rw [shiftedL, if_pos hs, ht, mergeP_tree _ _ (uniq_node hu).2.2.1]
  rfl
theorem atL_mem {l : List Tm} {x : Tm} (hx : x ∈ l) : ∃ k, atL l x.seq = some k := by
  cases h : atL l x.seq with
  | some k => exact ⟨k, rfl⟩
  | none => exact absurd rfl (atL_none.1 h x hx)
/-- Where the root's timer is. -/
theorem root_at {T : Tms} (o : TmsOk T) {y : Tw} (hy : y ∈ T.heap) : ∃ k, atL T.list y.seq = some k ∧ ∃ hk : k < T.list.length, T.list[k].seq = y.seq ∧ T.list[k].armed = true ∧ T.list[k].due = y.due := by
  obtain ⟨x, hx, e1, e2, e3⟩ := o.armed y hy
  obtain ⟨k, hk⟩ := atL_mem hx
  obtain ⟨h1, h2⟩ := atL_some hk
  obtain ⟨j, hj, rfl⟩ := List.getElem_of_mem hx
  obtain rfl := rise_same o.rise h1 hj h2
  exact ⟨k, by rw [← e1]; exact hk, h1, e1, e2, e3⟩
theorem map_at {zs : List Tr} {l : List Tm} (h : zs.map Tr.x = l) {k : Nat} (hk : k < l.length) : ∃ hz : k < zs.length, zs[k].x = l[k] := by
  subst h
  exact ⟨by simpa using hk, by simp⟩
theorem map_off {zs : List Tr} {l : List Tm} (h : zs.map Tr.x = l) {k : Nat} (hk : k < l.length) (p e : Nat) (f : Tm → Tm) : (zs.set k ⟨p, e, f l[k]⟩).map Tr.x = l.modify k f := by
  rw [List.map_set, h, modify_set hk]

theorem Blk.sameW {W w1 w3 : World} {g : Nat} {t : TypeId} {cs : Array Value} (h : Blk w1 g t cs) (k1 : Kept 0 0 W w1) (k3 : Kept 0 0 W w3) (hg : g < W.heap.size) : Blk w3 g t cs :=
  (k3.block g hg (.inr (Nat.zero_le _))).trans ((k1.block g hg (.inr (Nat.zero_le _))).symm.trans h)
set_option maxHeartbeats 6400000 in
set_option maxRecDepth 100000 in
theorem implFired : DoesMF 10 firedL firedX firedB := by
  intro T q v w h
  obtain ⟨hv, lv, rfl, ⟨A1, c1, rfl, s2⟩, ⟨A2, c2, rfl, s3⟩⟩ := h
  have H : Hid (RdM w w.heap.size (.agg #[.slice A1 T.heap.length c1, .slice A2 T.list.length c2, .int .i64 T.next]) T) := ⟨_, _, rfl, ⟨A1, c1, rfl, s2⟩, ⟨A2, c2, rfl, s3⟩⟩
  obtain ⟨W, hW⟩ : ∃ W, W = ((w.alloc (.cells #[.slice A1 T.heap.length c1, .slice A2 T.list.length c2, .int .i64 T.next] 30)).alloc (.cells #[.slice none 0 0, .slice none 0 0, .int .i64 0] 30)).alloc (.cells #[.int .i64 0, .int .i64 0, .int .i64 0, .int .i64 0, .bool false] 39) := ⟨_, rfl⟩
  have KV : Hid (Kept 0 0 w W) := by show Kept _ _ _ _; rw [hW]; exact ((Kept.alloc0 _ _).alloc _).alloc _
  have R0 : Hid (Blk W (w.heap.size + 1) 30 #[.slice none 0 0, .slice none 0 0, .int .i64 0]) := by show Blk _ _ _ _; rw [hW]; exact (blk2_new _ _ _ _).alloc _
  have Q0 : Hid (Blk W (w.heap.size + 1 + 1) 39 #[.int .i64 0, .int .i64 0, .int .i64 0, .int .i64 0, .bool false]) := by
    show Blk _ _ _ _
    rw [hW]
    have := Blk.new ((w.alloc (.cells #[.slice A1 T.heap.length c1, .slice A2 T.list.length c2, .int .i64 T.next] 30)).alloc (.cells #[.slice none 0 0, .slice none 0 0, .int .i64 0] 30)) 39 #[.int .i64 0, .int .i64 0, .int .i64 0, .int .i64 0, .bool false]
    simpa using this
  have zW : w.heap.size + 3 ≤ W.heap.size := by rw [hW]; simp
  have CA := Lib.hid (alarmsOf_any T _ W (H.out.up KV.out))
  have HW := Lib.hid hW
  clear s2 s3 hW
  go_enter Try.func10, Try.ntmps10
  go_wp2_with fail
  rw [← HW.out]
  with_reducible refine CA.out.mono ?_
  rintro e w1 ⟨k1, p, rfl, h1⟩
  have K1 := Lib.hid k1
  have H1 := Lib.hid h1
  have R1 := Lib.hid (R0.out.kept k1 (.inl (Nat.le_refl _)))
  have Q1 := Lib.hid (Q0.out.kept k1 (.inl (Nat.le_refl _)))
  have z1 := k1.size
  clear k1 h1 CA HW R0 Q0
  cases ho : timersOkB T
  · have E : Hid (firedB T q = false) := by show _ = _; simp [firedB, ho]
    have E2 : Hid (firedL T q = zeroT) := by show _ = _; simp [firedL, ho]
    have E3 : Hid (firedX T q = zeroTm) := by show _ = _; simp [firedX, ho]
    have r0 := bx0 (R1.out)
    have r1 := bx1 (R1.out)
    have r2 := bx2 (R1.out)
    have f0 := (R1.out).frozen 0
    have f1 := (R1.out).frozen 1
    have f2 := (R1.out).frozen 2
    have QX := blk3far (Q1.out) (g := w.heap.size + 1) (by omega) (.slice none 0 0) (.slice none 0 0) (.int .i64 0)
    have q0 := by0 (Q1.out)
    have q1 := by1 (Q1.out)
    have q2 := by2 (Q1.out)
    have q3 := by3 (Q1.out)
    have q4 := by4 (Q1.out)
    have fq0 := (Q1.out).frozen 0
    have fq1 := (Q1.out).frozen 1
    have fq2 := (Q1.out).frozen 2
    have fq3 := (Q1.out).frozen 3
    have fq4 := (Q1.out).frozen 4
    have qx0 := by0 (QX)
    have qx1 := by1 (QX)
    have qx2 := by2 (QX)
    have qx3 := by3 (QX)
    have qx4 := by4 (QX)
    have fx0 := QX.frozen 0
    have fx1 := QX.frozen 1
    have fx2 := QX.frozen 2
    have fx3 := QX.frozen 3
    have fx4 := QX.frozen 4
    have BF := blk8a (R1.out) (.slice none 0 0) (.slice none 0 0) (.int .i64 0) (.int .i64 0) (.int .i64 0) (.int .i64 0) (.int .i64 0) (.bool false)
    have BG := blk8b (Q1.out) (.slice none 0 0) (.slice none 0 0) (.int .i64 0) (.int .i64 0) (.int .i64 0) (.int .i64 0) (.int .i64 0) (.bool false)
    have F0 := bx0 (BF)
    have F1 := bx1 (BF)
    have F2 := bx2 (BF)
    have G0 := by0 (BG)
    have G1 := by1 (BG)
    have G2 := by2 (BG)
    have G3 := by3 (BG)
    have G4 := by4 (BG)
    have kF := kept8 w1 (w.heap.size + 1) (.slice none 0 0) (.slice none 0 0) (.int .i64 0) (.int .i64 0) (.int .i64 0) (.int .i64 0) (.int .i64 0) (.bool false)
    have KF := Lib.hid kF
    have zF := kF.size
    clear QX BF BG kF
    have FF := Lib.hid (And.intro F0 (And.intro F1 (And.intro F2 (And.intro G0 (And.intro G1 (And.intro G2 (And.intro G3 G4)))))))
    clear F0 F1 F2 G0 G1 G2 G3 G4
    clear ho
    go_wp2_with fail
    obtain ⟨F0, F1, F2, G0, G1, G2, G3, G4⟩ := FF.out
    exact bodyPost_ret (v := .tuple #[.agg #[.slice none 0 0, .slice none 0 0, .int .i64 0], .agg #[.int .i64 0, .int .i64 0, .int .i64 0, .int .i64 0, .bool false], .bool false]) (by simp [results, Try.results10, go_sem, F0, F1, F2, G0, G1, G2, G3, G4]) rfl ⟨_, ret_u0b E3.out E.out.symm, by rw [E2.out]; exact zero_own _ _ _, (KV.out.trans K1.out).trans2 KF.out (.inr (by omega))⟩
  · obtain ⟨b, t, D, d, zs, rfl, A, eq, hp, hok, inT⟩ := H1.out ho
    have OK := Lib.hid (timersOk_iff.1 ho)
    have AL := Lib.hid A
    have EQ := Lib.hid eq
    have HP := Lib.hid hp
    have HK := Lib.hid hok
    have IN := Lib.hid inT
    have ZL : Hid (zs.length = T.list.length) := by show _ = _; rw [← eq]; simp
    have l64 : zs.length ≤ 64 := by have := OK.out.len; have := ZL.out; omega
    have s64 : t.size ≤ 64 := by have := (heapOk_iff.1 OK.out.heap).1; rw [← hp, HTree.pre_len, PT.size_tree] at this; exact this
    have nx := OK.out.next
    have ET : Hid ((⟨t.tree.pre, zs.map Tr.x, T.next⟩ : Tms) = T) := by show _ = _; rw [eq, hp]
    have HO := Lib.hid ho
    clear A eq hp hok inT H1 ho
    cases t with
    | nil =>
      have hh : T.heap = [] := by rw [← HP.out]; rfl
      have FA : firedAt T q = none := by simp [firedAt, hh]
      have E : Hid (firedB T q = false) := by show _ = _; simp [firedB, FA]
      have EX : Hid (firedX T q = zeroTm) := by show _ = _; simp [firedX, FA]
      have EL : Hid (firedL T q = T) := by show _ = _; simp [firedL, HO.out, firedT, FA]
      have b0 : w1.cell? ⟨b, 0, none⟩ = some (.pointer none) := bx0 AL.out.blk
      clear hh FA
      have CS := Lib.hid (shownA_any w1 W.heap.size b d (.pointer none) .nil D zs (T.next) AL.out (by first | omega | (simp; omega)) (by first | omega | (simp; omega)))
      rw [ET.out] at CS
      go_wp2_with fail
      with_reducible refine CS.out.mono ?_
      rintro e w9 ⟨u, rfl, ⟨hv, lv, rfl, ⟨D1, d1, rfl, o1⟩, ⟨D2, d2, rfl, o2⟩⟩, hk⟩
      have O1 := Lib.hid o1
      have O2 := Lib.hid o2
      have K9 := Lib.hid ((K1.out).trans hk)
      have R9 := Lib.hid (R1.out.kept hk (.inl (Nat.le_refl _)))
      have Q9 := Lib.hid (Q1.out.kept hk (.inl (Nat.le_refl _)))
      have z9 := K1.out.size
      have y9 := hk.size
      clear o1 o2 hk CS
      have r0 := bx0 (R9.out)
      have r1 := bx1 (R9.out)
      have r2 := bx2 (R9.out)
      have f0 := (R9.out).frozen 0
      have f1 := (R9.out).frozen 1
      have f2 := (R9.out).frozen 2
      have QX := blk3far (Q9.out) (g := w.heap.size + 1) (by omega) (.slice D1 T.heap.length d1) (.slice D2 T.list.length d2) (.int .i64 T.next)
      have q0 := by0 (Q9.out)
      have q1 := by1 (Q9.out)
      have q2 := by2 (Q9.out)
      have q3 := by3 (Q9.out)
      have q4 := by4 (Q9.out)
      have fq0 := (Q9.out).frozen 0
      have fq1 := (Q9.out).frozen 1
      have fq2 := (Q9.out).frozen 2
      have fq3 := (Q9.out).frozen 3
      have fq4 := (Q9.out).frozen 4
      have qx0 := by0 (QX)
      have qx1 := by1 (QX)
      have qx2 := by2 (QX)
      have qx3 := by3 (QX)
      have qx4 := by4 (QX)
      have fx0 := QX.frozen 0
      have fx1 := QX.frozen 1
      have fx2 := QX.frozen 2
      have fx3 := QX.frozen 3
      have fx4 := QX.frozen 4
      have BF := blk8a (R9.out) (.slice D1 T.heap.length d1) (.slice D2 T.list.length d2) (.int .i64 T.next) (.int .i64 0) (.int .i64 0) (.int .i64 0) (.int .i64 0) (.bool false)
      have BG := blk8b (Q9.out) (.slice D1 T.heap.length d1) (.slice D2 T.list.length d2) (.int .i64 T.next) (.int .i64 0) (.int .i64 0) (.int .i64 0) (.int .i64 0) (.bool false)
      have F0 := bx0 (BF)
      have F1 := bx1 (BF)
      have F2 := bx2 (BF)
      have G0 := by0 (BG)
      have G1 := by1 (BG)
      have G2 := by2 (BG)
      have G3 := by3 (BG)
      have G4 := by4 (BG)
      have kF := kept8 w9 (w.heap.size + 1) (.slice D1 T.heap.length d1) (.slice D2 T.list.length d2) (.int .i64 T.next) (.int .i64 0) (.int .i64 0) (.int .i64 0) (.int .i64 0) (.bool false)
      have KF := Lib.hid kF
      have zF := kF.size
      clear QX BF BG kF
      have FF := Lib.hid (And.intro F0 (And.intro F1 (And.intro F2 (And.intro G0 (And.intro G1 (And.intro G2 (And.intro G3 G4)))))))
      clear F0 F1 F2 G0 G1 G2 G3 G4
      go_wp2_with fail
      obtain ⟨F0, F1, F2, G0, G1, G2, G3, G4⟩ := FF.out
      refine bodyPost_ret (v := .tuple #[.agg #[.slice D1 T.heap.length d1, .slice D2 T.list.length d2, .int .i64 T.next], .agg #[.int .i64 0, .int .i64 0, .int .i64 0, .int .i64 0, .bool false], .bool false]) (by simp [results, Try.results10, go_sem, F0, F1, F2, G0, G1, G2, G3, G4]) rfl ⟨_, ret_u0b EX.out E.out.symm, ?_, (KV.out.trans K9.out).trans2 KF.out (.inr (by omega))⟩
      rw [EL.out]
      exact ⟨_, _, rfl, ⟨D1, d1, rfl, (O1.out.kept KF.out (.inr (.inr (by omega)))).wide (by omega) zF⟩, ⟨D2, d2, rfl, (O2.out.kept KF.out (.inr (.inr (by omega)))).wide (by omega) zF⟩⟩
    | node g du s l r =>
      have hh : T.heap = ⟨du, s, l.tree.size⟩ :: (l.tree.pre ++ r.tree.pre) := by rw [← HP.out]; rfl
      have b0 : w1.cell? ⟨b, 0, none⟩ = some (toBlk g) := bx0 AL.out.blk
      have EG := Lib.hid (AL.out.lay.el (g, du, s) (by simp [PT.elems]))
      have e0 : w1.cell? ⟨g, 0, none⟩ = some (.int .i64 du) := EG.out.c0
      have e1 : w1.cell? ⟨g, 1, none⟩ = some (.int .i64 s) := EG.out.c1
      have HH := Lib.hid hh
      clear hh
      cases hd : isDueB q du
      · have FA : firedAt T q = none := by simp [firedAt, HH.out, hd]
        have E : Hid (firedB T q = false) := by show _ = _; simp [firedB, FA]
        have EX : Hid (firedX T q = zeroTm) := by show _ = _; simp [firedX, FA]
        have EL : Hid (firedL T q = T) := by show _ = _; simp [firedL, HO.out, firedT, FA]
        have HD := Lib.hid hd
        clear hd FA
        go_wp2_with fail
        with_reducible refine (dueI_any _ _ _).mono ?_
        rintro e w' ⟨rfl, rfl⟩
        rw [HD.out]
        have CS := Lib.hid (shownA_any w1 W.heap.size b d (.pointer none) (.node g du s l r) D zs (T.next) AL.out (by first | omega | (simp; omega)) (by first | omega | (simp; omega)))
        rw [ET.out] at CS
        go_wp2_with fail
        with_reducible refine CS.out.mono ?_
        rintro e w9 ⟨u, rfl, ⟨hv, lv, rfl, ⟨D1, d1, rfl, o1⟩, ⟨D2, d2, rfl, o2⟩⟩, hk⟩
        have O1 := Lib.hid o1
        have O2 := Lib.hid o2
        have K9 := Lib.hid ((K1.out).trans hk)
        have R9 := Lib.hid (R1.out.kept hk (.inl (Nat.le_refl _)))
        have Q9 := Lib.hid (Q1.out.kept hk (.inl (Nat.le_refl _)))
        have z9 := K1.out.size
        have y9 := hk.size
        clear o1 o2 hk CS
        have r0 := bx0 (R9.out)
        have r1 := bx1 (R9.out)
        have r2 := bx2 (R9.out)
        have f0 := (R9.out).frozen 0
        have f1 := (R9.out).frozen 1
        have f2 := (R9.out).frozen 2
        have QX := blk3far (Q9.out) (g := w.heap.size + 1) (by omega) (.slice D1 T.heap.length d1) (.slice D2 T.list.length d2) (.int .i64 T.next)
        have q0 := by0 (Q9.out)
        have q1 := by1 (Q9.out)
        have q2 := by2 (Q9.out)
        have q3 := by3 (Q9.out)
        have q4 := by4 (Q9.out)
        have fq0 := (Q9.out).frozen 0
        have fq1 := (Q9.out).frozen 1
        have fq2 := (Q9.out).frozen 2
        have fq3 := (Q9.out).frozen 3
        have fq4 := (Q9.out).frozen 4
        have qx0 := by0 (QX)
        have qx1 := by1 (QX)
        have qx2 := by2 (QX)
        have qx3 := by3 (QX)
        have qx4 := by4 (QX)
        have fx0 := QX.frozen 0
        have fx1 := QX.frozen 1
        have fx2 := QX.frozen 2
        have fx3 := QX.frozen 3
        have fx4 := QX.frozen 4
        have BF := blk8a (R9.out) (.slice D1 T.heap.length d1) (.slice D2 T.list.length d2) (.int .i64 T.next) (.int .i64 0) (.int .i64 0) (.int .i64 0) (.int .i64 0) (.bool false)
        have BG := blk8b (Q9.out) (.slice D1 T.heap.length d1) (.slice D2 T.list.length d2) (.int .i64 T.next) (.int .i64 0) (.int .i64 0) (.int .i64 0) (.int .i64 0) (.bool false)
        have F0 := bx0 (BF)
        have F1 := bx1 (BF)
        have F2 := bx2 (BF)
        have G0 := by0 (BG)
        have G1 := by1 (BG)
        have G2 := by2 (BG)
        have G3 := by3 (BG)
        have G4 := by4 (BG)
        have kF := kept8 w9 (w.heap.size + 1) (.slice D1 T.heap.length d1) (.slice D2 T.list.length d2) (.int .i64 T.next) (.int .i64 0) (.int .i64 0) (.int .i64 0) (.int .i64 0) (.bool false)
        have KF := Lib.hid kF
        have zF := kF.size
        clear QX BF BG kF
        have FF := Lib.hid (And.intro F0 (And.intro F1 (And.intro F2 (And.intro G0 (And.intro G1 (And.intro G2 (And.intro G3 G4)))))))
        clear F0 F1 F2 G0 G1 G2 G3 G4
        go_wp2_with fail
        obtain ⟨F0, F1, F2, G0, G1, G2, G3, G4⟩ := FF.out
        refine bodyPost_ret (v := .tuple #[.agg #[.slice D1 T.heap.length d1, .slice D2 T.list.length d2, .int .i64 T.next], .agg #[.int .i64 0, .int .i64 0, .int .i64 0, .int .i64 0, .bool false], .bool false]) (by simp [results, Try.results10, go_sem, F0, F1, F2, G0, G1, G2, G3, G4]) rfl ⟨_, ret_u0b EX.out E.out.symm, ?_, (KV.out.trans K9.out).trans2 KF.out (.inr (by omega))⟩
        rw [EL.out]
        exact ⟨_, _, rfl, ⟨D1, d1, rfl, (O1.out.kept KF.out (.inr (.inr (by omega)))).wide (by omega) zF⟩, ⟨D2, d2, rfl, (O2.out.kept KF.out (.inr (.inr (by omega)))).wide (by omega) zF⟩⟩
      · obtain ⟨k, hk, hkl, t1, t2, t3⟩ := root_at OK.out (y := ⟨du, s, l.tree.size⟩) (by rw [HH.out]; simp)
        simp only at hk t1 t3
        have FA : firedAt T q = some k := by simp [firedAt, HH.out, hd, hk]
        obtain ⟨hz, ez⟩ := map_at EQ.out hkl
        have E : Hid (firedB T q = true) := by show _ = _; simp [firedB, FA, HO.out]
        have EX : Hid (firedX T q = zs[k].x) := by show _ = _; simp [firedX, FA, HO.out, List.getD, List.getElem?_eq_getElem hkl, ez]
        obtain ⟨Tn, hTn⟩ : ∃ Tn, Tn = firedL T q := ⟨_, rfl⟩
        have EN : Hid ((⟨(mergeP l r).tree.pre, (zs.set k ⟨zs[k].p, zs[k].e, disarm zs[k].x⟩).map Tr.x, T.next⟩ : Tms) = Tn) := by
          show _ = _
          rw [hTn, firedL, HO.out, if_pos rfl, firedT, FA, shift_pre HP.out HK.out OK.out.heap, ez, map_off EQ.out hkl]
        have EL : Hid (firedL T q = Tn) := hTn.symm
        have ha : zs[k].x.armed = true := by rw [ez]; exact t2
        have fp : findP (.node g du s l r) zs[k].x.seq [] = some ([], .node g du s l r) := by simp [findP, ez, t1]
        have ge : zs[k].e = g ∧ zs[k].x.due = du := by
          obtain ⟨c', l', r', hf⟩ := IN.out zs[k] (List.getElem_mem hz) ha
          rw [fp] at hf
          injection hf with hf
          injection hf with h1 h2
          injection h2 with h3 h4
          exact ⟨h3.symm, h4.symm⟩
        have fp' : findP (.node g du s l r) zs[k].x.seq [] = some ([], .node zs[k].e zs[k].x.due zs[k].x.seq l r) := by rw [fp, ge.1, ge.2, ez, t1]
        have CD := Lib.hid (fun (Y : World) (hY : Kept 0 0 w1 Y) => disarm_at Y W.heap.size b d (.node g du s l r) D zs T.next (AL.out.kept hY) k zs[k] (List.getElem?_eq_getElem hz) ha [] l r fp' (by omega))
        have CF := Lib.hid (findA_any w1 W.heap.size b d _ _ D zs T.next s AL.out (by omega))
        have TA : Hid (trAt zs (atL (zs.map Tr.x) s) = some ⟨zs[k].p, 0, none⟩) := by show _ = _; rw [EQ.out, hk, trAt_some hz]
        have CT := Lib.hid (shownT_any w1 zs[k] (AL.out.get hz))
        have HD := Lib.hid hd
        clear hd FA fp fp' ge ha t1 t2 t3 hk ez hTn
        go_wp2_with fail
        with_reducible refine (dueI_any _ _ _).mono ?_
        rintro e w' ⟨rfl, rfl⟩
        rw [HD.out]
        go_wp2_with fail
        with_reducible refine CF.out.mono ?_
        rintro e w' ⟨rfl, rfl⟩
        rw [TA.out]
        go_wp2_with fail
        with_reducible refine CT.out.mono ?_
        rintro e w2 ⟨rfl, hk2⟩
        obtain ⟨Y, hY⟩ : ∃ Y, Y = w2.alloc (.cells #[.int .i64 zs[k].x.seq, .int .i64 zs[k].x.due, .int .i64 zs[k].x.what, .int .i64 zs[k].x.whom, .bool zs[k].x.armed] 39) := ⟨_, rfl⟩
        have KY : Hid (Kept 0 0 w1 Y) := by show Kept _ _ _ _; rw [hY]; exact hk2.alloc _
        have BY : Hid (Blk Y w2.heap.size 39 #[.int .i64 zs[k].x.seq, .int .i64 zs[k].x.due, .int .i64 zs[k].x.what, .int .i64 zs[k].x.whom, .bool zs[k].x.armed]) := by show Blk _ _ _ _; rw [hY]; exact Blk.new _ _ _
        have n2 := hk2.size
        have HY := Lib.hid hY
        clear hY hk2 CT CF b0 e0 e1
        go_wp2_with fail
        rw [← HY.out]
        with_reducible refine (CD.out Y KY.out).mono ?_
        rintro e w3 ⟨rfl, a3, fr, rs⟩
        have A3 : Hid (Alm w3 W.heap.size b (.pointer none) (mergeP l r) D d (zs.set k ⟨zs[k].p, zs[k].e, disarm zs[k].x⟩) T.next) := a3
        have K3 := Lib.hid (fr W (Nat.le_refl _) (K1.out.trans KY.out))
        have BX : Hid (Blk w3 w2.heap.size 39 #[.int .i64 zs[k].x.seq, .int .i64 zs[k].x.due, .int .i64 zs[k].x.what, .int .i64 zs[k].x.whom, .bool zs[k].x.armed]) := rs _ _ _ (by decide) (by decide) (by decide) BY.out
        have R3 : Hid (Blk w3 (w.heap.size + 1) 30 #[.slice none 0 0, .slice none 0 0, .int .i64 0]) := R1.out.sameW K1.out K3.out (by omega)
        have Q3 : Hid (Blk w3 (w.heap.size + 1 + 1) 39 #[.int .i64 0, .int .i64 0, .int .i64 0, .int .i64 0, .bool false]) := Q1.out.sameW K1.out K3.out (by omega)
        have sm : (mergeP l r).size ≤ 1000 := by rw [mergeP_size]; simp only [PT.size] at s64; omega
        have CS := Lib.hid (fun (X : World) (hX : Kept 0 0 w3 X) => shownA_any X W.heap.size b d _ _ D _ _ (A3.out.kept hX) (by first | omega | (simp; omega)) sm)
        rw [EN.out] at CS
        have z3 := K3.out.size
        clear a3 fr rs CD
        go_upto_region 9 with fail
        go_region_held3 (fun w' => w'.cell? ⟨w2.heap.size, 0, none⟩ = some (.int .i64 zs[k].x.seq) ∧ w'.cell? ⟨w2.heap.size, 1, none⟩ = some (.int .i64 zs[k].x.due) ∧ w'.cell? ⟨w2.heap.size, 2, none⟩ = some (.int .i64 zs[k].x.what) ∧ w'.cell? ⟨w2.heap.size, 3, none⟩ = some (.int .i64 zs[k].x.whom) ∧ w'.cell? ⟨w2.heap.size, 4, none⟩ = some (.bool zs[k].x.armed))
          (first | with_reducible exact ⟨by0 (BX.out.drew), by1 (BX.out.drew), by2 (BX.out.drew), by3 (BX.out.drew), by4 (BX.out.drew)⟩ | with_reducible exact ⟨by0 (B9), by1 (B9), by2 (B9), by3 (B9), by4 (B9)⟩ | with_reducible exact ⟨by0 ((((B9).far (by first | omega | (simp; done) | (simp; omega)) _).far (by first | omega | (simp; done) | (simp; omega)) _).far (by first | omega | (simp; done) | (simp; omega)) _), by1 ((((B9).far (by first | omega | (simp; done) | (simp; omega)) _).far (by first | omega | (simp; done) | (simp; omega)) _).far (by first | omega | (simp; done) | (simp; omega)) _), by2 ((((B9).far (by first | omega | (simp; done) | (simp; omega)) _).far (by first | omega | (simp; done) | (simp; omega)) _).far (by first | omega | (simp; done) | (simp; omega)) _), by3 ((((B9).far (by first | omega | (simp; done) | (simp; omega)) _).far (by first | omega | (simp; done) | (simp; omega)) _).far (by first | omega | (simp; done) | (simp; omega)) _), by4 ((((B9).far (by first | omega | (simp; done) | (simp; omega)) _).far (by first | omega | (simp; done) | (simp; omega)) _).far (by first | omega | (simp; done) | (simp; omega)) _)⟩ | with_reducible exact ⟨by0 (((((((((B9).far (by first | omega | (simp; done) | (simp; omega)) _).far (by first | omega | (simp; done) | (simp; omega)) _).far (by first | omega | (simp; done) | (simp; omega)) _).far (by first | omega | (simp; done) | (simp; omega)) _).far (by first | omega | (simp; done) | (simp; omega)) _).far (by first | omega | (simp; done) | (simp; omega)) _).far (by first | omega | (simp; done) | (simp; omega)) _).far (by first | omega | (simp; done) | (simp; omega)) _), by1 (((((((((B9).far (by first | omega | (simp; done) | (simp; omega)) _).far (by first | omega | (simp; done) | (simp; omega)) _).far (by first | omega | (simp; done) | (simp; omega)) _).far (by first | omega | (simp; done) | (simp; omega)) _).far (by first | omega | (simp; done) | (simp; omega)) _).far (by first | omega | (simp; done) | (simp; omega)) _).far (by first | omega | (simp; done) | (simp; omega)) _).far (by first | omega | (simp; done) | (simp; omega)) _), by2 (((((((((B9).far (by first | omega | (simp; done) | (simp; omega)) _).far (by first | omega | (simp; done) | (simp; omega)) _).far (by first | omega | (simp; done) | (simp; omega)) _).far (by first | omega | (simp; done) | (simp; omega)) _).far (by first | omega | (simp; done) | (simp; omega)) _).far (by first | omega | (simp; done) | (simp; omega)) _).far (by first | omega | (simp; done) | (simp; omega)) _).far (by first | omega | (simp; done) | (simp; omega)) _), by3 (((((((((B9).far (by first | omega | (simp; done) | (simp; omega)) _).far (by first | omega | (simp; done) | (simp; omega)) _).far (by first | omega | (simp; done) | (simp; omega)) _).far (by first | omega | (simp; done) | (simp; omega)) _).far (by first | omega | (simp; done) | (simp; omega)) _).far (by first | omega | (simp; done) | (simp; omega)) _).far (by first | omega | (simp; done) | (simp; omega)) _).far (by first | omega | (simp; done) | (simp; omega)) _), by4 (((((((((B9).far (by first | omega | (simp; done) | (simp; omega)) _).far (by first | omega | (simp; done) | (simp; omega)) _).far (by first | omega | (simp; done) | (simp; omega)) _).far (by first | omega | (simp; done) | (simp; omega)) _).far (by first | omega | (simp; done) | (simp; omega)) _).far (by first | omega | (simp; done) | (simp; omega)) _).far (by first | omega | (simp; done) | (simp; omega)) _).far (by first | omega | (simp; done) | (simp; omega)) _)⟩)
          ((go_at_call 20; ((with_reducible refine (CS.out w3.drew (Kept.refl 0 0 w3).drew).mono ?_)); rintro e w9 ⟨u, rfl, ⟨hv, lv, rfl, ⟨D1, d1, rfl, o1⟩, ⟨D2, d2, rfl, o2⟩⟩, hk⟩; have k9 : Kept 0 0 w3 w9 := (Kept.refl 0 0 w3).drew.trans hk; have hs : w3.drew.heap.size = w3.heap.size := rfl; rw [hs] at o1 o2; clear hs; have O1 := Lib.hid o1; have O2 := Lib.hid o2; have B9 := BX.out.kept k9 (.inl (Nat.le_refl _)); have R9 := Lib.hid (R3.out.kept k9 (.inl (Nat.le_refl _))); have Q9 := Lib.hid (Q3.out.kept k9 (.inl (Nat.le_refl _))); have K9 := Lib.hid (K3.out.trans k9); have y9 := k9.size; clear o1 o2 hk; have r0 := bx0 (R9.out); have r1 := bx1 (R9.out); have r2 := bx2 (R9.out); have f0 := (R9.out).frozen 0; have f1 := (R9.out).frozen 1; have f2 := (R9.out).frozen 2; have QX := blk3far (Q9.out) (g := w.heap.size + 1) (by omega) (.slice D1 Tn.heap.length d1) (.slice D2 Tn.list.length d2) (.int .i64 Tn.next); have q0 := by0 (Q9.out); have q1 := by1 (Q9.out); have q2 := by2 (Q9.out); have q3 := by3 (Q9.out); have q4 := by4 (Q9.out); have fq0 := (Q9.out).frozen 0; have fq1 := (Q9.out).frozen 1; have fq2 := (Q9.out).frozen 2; have fq3 := (Q9.out).frozen 3; have fq4 := (Q9.out).frozen 4; have qx0 := by0 (QX); have qx1 := by1 (QX); have qx2 := by2 (QX); have qx3 := by3 (QX); have qx4 := by4 (QX); have fx0 := QX.frozen 0; have fx1 := QX.frozen 1; have fx2 := QX.frozen 2; have fx3 := QX.frozen 3; have fx4 := QX.frozen 4; have BF := blk8a (R9.out) (.slice D1 Tn.heap.length d1) (.slice D2 Tn.list.length d2) (.int .i64 Tn.next) (.int .i64 zs[k].x.seq) (.int .i64 zs[k].x.due) (.int .i64 zs[k].x.what) (.int .i64 zs[k].x.whom) (.bool zs[k].x.armed); have BG := blk8b (Q9.out) (.slice D1 Tn.heap.length d1) (.slice D2 Tn.list.length d2) (.int .i64 Tn.next) (.int .i64 zs[k].x.seq) (.int .i64 zs[k].x.due) (.int .i64 zs[k].x.what) (.int .i64 zs[k].x.whom) (.bool zs[k].x.armed); have F0 := bx0 (BF); have F1 := bx1 (BF); have F2 := bx2 (BF); have G0 := by0 (BG); have G1 := by1 (BG); have G2 := by2 (BG); have G3 := by3 (BG); have G4 := by4 (BG); have kF := kept8 w9 (w.heap.size + 1) (.slice D1 Tn.heap.length d1) (.slice D2 Tn.list.length d2) (.int .i64 Tn.next) (.int .i64 zs[k].x.seq) (.int .i64 zs[k].x.due) (.int .i64 zs[k].x.what) (.int .i64 zs[k].x.whom) (.bool zs[k].x.armed); have KF := Lib.hid kF; have zF := kF.size; clear QX BF BG kF; have FF := Lib.hid (And.intro F0 (And.intro F1 (And.intro F2 (And.intro G0 (And.intro G1 (And.intro G2 (And.intro G3 G4))))))); clear F0 F1 F2 G0 G1 G2 G3 G4))
        all_goals go_wp2_with fail
        all_goals (obtain ⟨F0, F1, F2, G0, G1, G2, G3, G4⟩ := FF.out)
        all_goals refine bodyPost_ret (v := .tuple #[.agg #[.slice D1 Tn.heap.length d1, .slice D2 Tn.list.length d2, .int .i64 Tn.next], .agg #[.int .i64 zs[k].x.seq, .int .i64 zs[k].x.due, .int .i64 zs[k].x.what, .int .i64 zs[k].x.whom, .bool zs[k].x.armed], .bool true]) (by simp [results, Try.results10, go_sem, F0, F1, F2, G0, G1, G2, G3, G4]) rfl ⟨_, ret_uxb EX.out.symm E.out.symm, ?_, (KV.out.trans K9.out).trans2 KF.out (.inr (by omega))⟩
        all_goals rw [EL.out]
        all_goals exact ⟨_, _, rfl, ⟨D1, d1, rfl, (O1.out.kept KF.out (.inr (.inr (by omega)))).wide (by omega) zF⟩, ⟨D2, d2, rfl, (O2.out.kept KF.out (.inr (.inr (by omega)))).wide (by omega) zF⟩⟩
end Go.Proofs.Ytgphakpcenlplaa
