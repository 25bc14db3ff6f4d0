/- The program's ErrOf, FirstOf, CauseOf, LetGo and DoneBy; conditions: the slices can be read, the two sentinels and package errors' errorType (FirstOf, CauseOf) lie where the program laid them. -/
import Derived.Test.YtgahjachkeoflaaDoorXv
import Derived.Test.YtgahjachkeoflaaDoorXt
import Derived.Test.YtgahjachkeoflaaDoorXg
namespace Go.Proofs.YtgahjachkeoflaaDoor
open Go.RowKit Go.Sort

set_option maxHeartbeats 1600000 in
theorem implErr (t : List Nd) (l : List Ev) (n : Int) (v u : Value) (a0 a1 : Addr) (w : World) (hs : Sen w a0 a1) (h : RdNd w w.heap.size v t) (h' : RdEv w w.heap.size u l) :
    Calls Tryd.prog 20 #[v, u, .int .i64 n] w fun e w' => e = .returned (.int .i64 (errI t l n)) ∧ Kept 0 0 w w' := by
  have CO := Lib.hid (endOf_any t l n v u a0 a1 w hs h h')
  have HS := Lib.hid hs
  clear h h' hs
  go_enter Tryd.func20, Tryd.ntmps20
  go_wp2_with fail
  with_reducible refine CO.out.mono ?_
  rintro e w1 ⟨rfl, hk⟩
  have K1 := Lib.hid hk
  have S1 := Lib.hid (HS.out.kept hk)
  clear hk CO HS
  have g0 := S1.out.v0
  have g1 := S1.out.v1
  cases q1 : fstO t l n with
  | none =>
    have E : Hid (errI t l n = 0) := by show _ = _; simp [errI, fstE, q1, evZ]
    clear q1
    unfold endV
    go_wp2_with fail
    with_reducible refine (is_nil a0 w1).mono ?_
    rintro e w2 ⟨rfl, hk⟩
    have K2 := Lib.hid (K1.out.trans hk)
    have g1' := cell_kept hk g1
    clear hk g0 g1
    go_wp2_with fail
    with_reducible refine (is_nil a1 w2).mono ?_
    rintro e w3 ⟨rfl, hk⟩
    have K3 := Lib.hid (K2.out.trans hk)
    clear hk g1'
    go_wp2
    go_ret
    exact ⟨ret_int E.out.symm, K3.out⟩
  | some y =>
    have E0 : Hid (errI t l n = y.err) := by show _ = _; simp [errI, fstE, q1]
    rcases fst_err q1 with he | he
    · have E : Hid (errI t l n = 1) := by show _ = _; rw [E0.out, he]
      have es : endV a0 a1 (some y) = doneV y.node y.err y.cause y.time a0 := by simp [he, senAt, endV]
      rw [es]
      clear q1 E0 he es
      have CI := Lib.hid (is_done_same y.node y.err y.cause y.time a0 w1)
      unfold doneV at CI ⊢
      go_wp2_with fail
      with_reducible refine CI.out.mono ?_
      rintro e w2 ⟨rfl, hk⟩
      have K2 := Lib.hid (K1.out.trans hk)
      clear hk g0 g1 CI
      go_wp2
      go_ret
      exact ⟨ret_int E.out.symm, K2.out⟩
    · have E : Hid (errI t l n = 2) := by show _ = _; rw [E0.out, he]
      have es : endV a0 a1 (some y) = doneV y.node y.err y.cause y.time a1 := by simp [he, senAt, endV]
      rw [es]
      clear q1 E0 he es
      have CI := Lib.hid (is_done_other y.node y.err y.cause y.time a1 a0 w1 (Ne.symm S1.out.ne) S1.out.b1 S1.out.b0)
      unfold doneV at CI ⊢
      go_wp2_with fail
      with_reducible refine CI.out.mono ?_
      rintro e w2 ⟨rfl, hk⟩
      have K2 := Lib.hid (K1.out.trans hk)
      have g1' := cell_kept hk g1
      clear hk g0 g1 CI
      have CJ := Lib.hid (is_done_same y.node y.err y.cause y.time a1 w2)
      unfold doneV at CJ
      go_wp2_with fail
      with_reducible refine CJ.out.mono ?_
      rintro e w3 ⟨rfl, hk⟩
      have K3 := Lib.hid (K2.out.trans hk)
      clear hk g1' CJ
      go_wp2
      go_ret
      exact ⟨ret_int E.out.symm, K3.out⟩

theorem results_first (tmps : Array Value) (w : World) (r : Nat) (v0 v1 v2 v3 : Value) (b : Bool) (hp : tmps[6]?.getD undef = .pointer (some ⟨r, 0, none⟩)) (hq : tmps[7]?.getD undef = .bool b) (h : Blk w r 27 #[v0, v1, v2, v3]) :
    (results Tryd.f16 tmps).run Tryd.prog w = .ok (.tuple #[.agg #[v0, v1, v2, v3], .bool b]) w := by
  have h0 := h.cell 0
  have h1 := h.cell 1
  have h2 := h.cell 2
  have h3 := h.cell 3
  simp [results, Tryd.results16, hp, hq, go_sem, h0, h1, h2, h3]

set_option maxHeartbeats 1600000 in
theorem implFirst (t : List Nd) (l : List Ev) (n : Int) (v u : Value) (a0 a1 : Addr) (w : World) (hs : Sen w a0 a1) (h : RdNd w w.heap.size v t) (h' : RdEv w w.heap.size u l) (hy : Typ w) :
    Calls Tryd.prog 16 #[v, u, .int .i64 n] w fun e w' => e = .returned (.tuple #[.agg #[.int .i64 (fstE t l n).node, .int .i64 (fstE t l n).err, .int .i64 (fstE t l n).cause, .int .i64 (fstE t l n).time], .bool (fstB t l n)]) ∧ Kept 0 0 w w' := by
  obtain ⟨W, hW⟩ : ∃ W, W = (w.alloc (.cells #[.int .i64 0, .int .i64 0, .int .i64 0, .int .i64 0] 27)).alloc (.cells #[.int .i64 0, .int .i64 0, .int .i64 0, .int .i64 0, .nilIface] 74) := ⟨_, rfl⟩
  have KW : Hid (Kept 0 0 w W) := by show Kept _ _ _ _; rw [hW]; exact (Kept.alloc0 _ _).alloc _
  have B0 : Hid (Blk W w.heap.size 27 #[.int .i64 0, .int .i64 0, .int .i64 0, .int .i64 0]) := by show Blk _ _ _ _; rw [hW]; exact (Blk.new _ _ _).alloc _
  have D0 : Hid (Blk W (w.heap.size + 1) 74 #[.int .i64 0, .int .i64 0, .int .i64 0, .int .i64 0, .nilIface]) := by
    show Blk _ _ _ _
    rw [hW]
    have := Blk.new (w.alloc (.cells #[.int .i64 0, .int .i64 0, .int .i64 0, .int .i64 0] 27)) 74 #[.int .i64 0, .int .i64 0, .int .i64 0, .int .i64 0, .nilIface]
    rwa [World.size_alloc] at this
  have HW := Lib.hid hW
  have CO := Lib.hid (endOf_any t l n v u a0 a1 W (hs.kept KW.out) (h.up KW.out) (h'.up KW.out))
  have HY := Lib.hid (hy.kept KW.out)
  clear h h' hs hy hW
  go_enter Tryd.func16, Tryd.ntmps16
  go_wp2_with fail
  rw [← HW.out]
  with_reducible refine CO.out.mono ?_
  rintro e w1 ⟨rfl, hk⟩
  have K1 := Lib.hid (KW.out.trans hk)
  have B1 := Lib.hid (B0.out.kept hk (.inl (Nat.le_refl _)))
  have D1 := Lib.hid (D0.out.kept hk (.inl (Nat.le_refl _)))
  have Y1 := Lib.hid (HY.out.kept hk)
  clear hk CO HW KW B0 D0 HY
  cases q1 : fstO t l n with
  | none =>
    have E1 : Hid (fstE t l n = evZ) := (fst_no q1).1
    have E2 : Hid (fstB t l n = false) := (fst_no q1).2
    clear q1
    unfold endV
    go_wp2_with fail
    with_reducible refine (as_nil _ w1).mono ?_
    rintro e w2 ⟨rfl, rfl⟩
    have b0 := B1.out.cell 0
    have f0 := B1.out.frozen 0
    have b1 := B1.out.cell 1
    have f1 := B1.out.frozen 1
    have b2 := B1.out.cell 2
    have f2 := B1.out.frozen 2
    have b3 := B1.out.cell 3
    have f3 := B1.out.frozen 3
    go_wp2_with fail
    have R := Lib.hid (blk_set4 B1.out (.int .i64 0) (.int .i64 0) (.int .i64 0) (.int .i64 0))
    have KR := Lib.hid (K1.out.trans2 (kept_set4 _ w.heap.size (.int .i64 0) (.int .i64 0) (.int .i64 0) (.int .i64 0)) (.inr (Nat.le_refl _)))
    rw [E1.out, E2.out]
    exact bodyPost_ret (results_first _ _ w.heap.size _ _ _ _ false rfl rfl R.out) rfl ⟨rfl, KR.out⟩
  | some y =>
    have E1 : Hid (fstE t l n = y) := (fst_yes q1).1
    have E2 : Hid (fstB t l n = true) := (fst_yes q1).2
    clear q1
    have CA := Lib.hid (as_done y.node y.err y.cause y.time (senAt a0 a1 (decide (y.err = 2))) (w.heap.size + 1) _ _ _ _ _ w1 Y1.out D1.out)
    rw [show endV a0 a1 (some y) = doneV y.node y.err y.cause y.time (senAt a0 a1 (decide (y.err = 2))) from rfl]
    unfold doneV at CA ⊢
    go_wp2_with fail
    with_reducible refine CA.out.mono ?_
    rintro e w2 ⟨rfl, hb, hk⟩
    have K2 := Lib.hid (K1.out.trans2 hk (.inr (Nat.le_succ _)))
    have B2 := Lib.hid (B1.out.kept hk (.inr (.inl (Nat.lt_succ_self _))))
    have d0 := hb.cell 0
    have d1 := hb.cell 1
    have d2 := hb.cell 2
    have d3 := hb.cell 3
    clear hk CA K1 B1 D1 Y1 hb
    have b0 := B2.out.cell 0
    have f0 := B2.out.frozen 0
    have b1 := B2.out.cell 1
    have f1 := B2.out.frozen 1
    have b2 := B2.out.cell 2
    have f2 := B2.out.frozen 2
    have b3 := B2.out.cell 3
    have f3 := B2.out.frozen 3
    go_wp2_with fail
    have R := Lib.hid (blk_set4 B2.out (.int .i64 y.node) (.int .i64 y.err) (.int .i64 y.cause) (.int .i64 y.time))
    have KR := Lib.hid (K2.out.trans2 (kept_set4 _ w.heap.size (.int .i64 y.node) (.int .i64 y.err) (.int .i64 y.cause) (.int .i64 y.time)) (.inr (Nat.le_refl _)))
    rw [E1.out, E2.out]
    exact bodyPost_ret (results_first _ _ w.heap.size _ _ _ _ true rfl rfl R.out) rfl ⟨rfl, KR.out⟩

set_option maxHeartbeats 800000 in
theorem implCause (t : List Nd) (l : List Ev) (n : Int) (v u : Value) (a0 a1 : Addr) (w : World) (hs : Sen w a0 a1) (h : RdNd w w.heap.size v t) (h' : RdEv w w.heap.size u l) (hy : Typ w) :
    Calls Tryd.prog 21 #[v, u, .int .i64 n] w fun e w' => e = .returned (.int .i64 (causeI t l n)) ∧ Kept 0 0 w w' := by
  have CO := Lib.hid (implFirst t l n v u a0 a1 w hs h h' hy)
  clear h h' hs hy
  have E : Hid ((fstE t l n).cause = causeI t l n) := by show _ = _; rfl
  go_enter Tryd.func21, Tryd.ntmps21
  go_wp2_with fail
  with_reducible refine CO.out.mono ?_
  rintro e w1 ⟨rfl, hk⟩
  have K1 := Lib.hid hk
  clear hk CO
  go_wp2
  go_ret
  exact ⟨ret_int E.out, K1.out.alloc _⟩

set_option maxHeartbeats 3200000 in
theorem implLet (t : List Nd) (l : List Ev) (x : Ev) (v u : Value) (a0 a1 : Addr) (w : World) (hs : Sen w a0 a1) (h : RdNd w w.heap.size v t) (h' : RdEv w w.heap.size u l) :
    Calls Tryd.prog 12 #[v, u, .agg #[.int .i64 x.node, .int .i64 x.err, .int .i64 x.cause, .int .i64 x.time]] w fun e w' => ∃ z, e = .returned (.tuple #[z, .bool (letB t l x)]) ∧ OwnEv w' w.heap.size w'.heap.size z (letL t l x) ∧ Kept 0 0 w w' := by
  have HT := Lib.hid h
  have H := Lib.hid h'
  have HS := Lib.hid hs
  obtain ⟨W, hW⟩ : ∃ W, W = w.alloc (.cells #[.int .i64 x.node, .int .i64 x.err, .int .i64 x.cause, .int .i64 x.time] 27) := ⟨_, rfl⟩
  have KW : Hid (Kept 0 0 w W) := by show Kept _ _ _ _; rw [hW]; exact Kept.alloc0 _ _
  have B0 : Hid (Blk W w.heap.size 27 #[.int .i64 x.node, .int .i64 x.err, .int .i64 x.cause, .int .i64 x.time]) := by show Blk _ _ _ _; rw [hW]; exact Blk.new _ _ _
  have CO := Lib.hid (implEvents t l v u a0 a1 W (hs.kept KW.out) (HT.out.up KW.out) (H.out.up KW.out))
  have HW := Lib.hid hW
  clear hW h hs
  obtain ⟨A, c, rfl, h'⟩ := h'
  clear h'
  cases q1 : eventsB t l
  · have E : Hid (letB t l x = false) := by show _ = _; simp [letB, q1]
    have EL : Hid (letL t l x = []) := by show _ = _; simp [letL, q1]
    rw [q1] at CO
    clear q1
    go_enter Tryd.func12, Tryd.ntmps12
    go_wp2_with fail
    rw [← HW.out]
    with_reducible refine CO.out.mono ?_
    rintro e w1 ⟨rfl, hk⟩
    have K1 := Lib.hid (KW.out.trans hk)
    clear hk CO
    go_wp2
    go_ret2
    rw [E.out, EL.out]
    exact ⟨_, rfl, OwnEv.nil _ _ _, K1.out⟩
  have L : l.length ≤ 60 := events_len q1
  have OK := Lib.hid (eventsB_true.1 q1).1
  have Q1 := Lib.hid q1
  rw [q1] at CO
  clear q1
  go_enter Tryd.func12, Tryd.ntmps12
  go_wp2_with fail
  rw [← HW.out]
  with_reducible refine CO.out.mono ?_
  rintro e w1 ⟨rfl, hk⟩
  have K1 := Lib.hid (KW.out.trans hk)
  have B1 := Lib.hid (B0.out.kept hk (.inl (Nat.le_refl _)))
  clear hk CO B0 KW HW
  have b0 := B1.out.cell 0
  have b1 := B1.out.cell 1
  have b2 := B1.out.cell 2
  have b3 := B1.out.cell 3
  have CF := Lib.hid (mayFollow_any t l x v (.slice A l.length c) a0 a1 w1 (HS.out.kept K1.out) OK.out (HT.out.up K1.out) (H.out.up K1.out))
  go_wp2_with fail
  with_reducible refine CF.out.mono ?_
  rintro e w2 ⟨rfl, hk⟩
  have K2 := Lib.hid (K1.out.trans hk)
  have B2 := Lib.hid (B1.out.kept hk (.inl (Nat.le_refl _)))
  clear hk CF B1 K1 b0 b1 b2 b3
  have z2 := K2.out.size
  have H2 := Lib.hid (H.out.kept (Nat.le_refl _) K2.out (.inl (Nat.le_refl _)))
  cases q2 : mayB t l x
  · have E : Hid (letB t l x = false) := by show _ = _; simp [letB, q2]
    have EL : Hid (letL t l x = l) := by show _ = _; simp [letL, Q1.out, q2]
    clear q2
    go_wp2_with fail
    with_reducible refine (clone_any l _ w2 (H2.out.wide (by omega)) (by omega)).mono ?_
    rintro e w5 ⟨_, rfl, ⟨D5, d5, rfl, ho⟩, hk⟩
    have K5 := Lib.hid (K2.out.trans hk)
    have O6 := Lib.hid (ho.wide (lo' := w.heap.size) (by omega) (Nat.le_refl _))
    clear hk ho
    go_wp2
    go_ret2
    rw [E.out, EL.out]
    exact ⟨_, rfl, ⟨D5, d5, rfl, O6.out⟩, K5.out⟩
  · have E : Hid (letB t l x = true) := by show _ = _; simp [letB, Q1.out, q2]
    have EL : Hid (letL t l x = l ++ [x]) := by show _ = _; simp [letL, Q1.out, q2]
    clear q2
    have b0 := B2.out.cell 0
    have b1 := B2.out.cell 1
    have b2 := B2.out.cell 2
    have b3 := B2.out.cell 3
    obtain ⟨U, hU⟩ : ∃ U, U = (w2.alloc (.cells #[.int .i64 x.node, .int .i64 x.err, .int .i64 x.cause, .int .i64 x.time] 27)).alloc (.cells #[.slice A l.length c, .slice (some ⟨w2.heap.size, 0, none⟩) 1 1] 25) := ⟨_, rfl⟩
    have KU : Hid (Kept 0 0 w2 U) := by show Kept _ _ _ _; rw [hU]; exact (Kept.alloc0 _ _).alloc _
    have zU : U.heap.size = w2.heap.size + 2 := by rw [hU]; simp
    have MU : Hid (Many U (w2.heap.size + 1) [.slice A l.length c, .slice (some ⟨w2.heap.size, 0, none⟩) 1 1] [l, [x]]) := by
      refine ⟨?_, rfl, ?_⟩
      · rw [hU]
        have := Blk.new (w2.alloc (.cells #[.int .i64 x.node, .int .i64 x.err, .int .i64 x.cause, .int .i64 x.time] 27)) 25 #[.slice A l.length c, .slice (some ⟨w2.heap.size, 0, none⟩) 1 1]
        simpa using this
      · intro k hk
        match k, hk with
        | 0, _ =>
          obtain ⟨A', c', e', s'⟩ := (H2.out.kept z2 KU.out (.inl (Nat.le_refl _))).wide (B' := U.heap.size) (by omega)
          injection e' with e1 _ e2
          subst e1 e2
          exact ⟨A, c, rfl, s'⟩
        | 1, _ =>
          refine ⟨some ⟨w2.heap.size, 0, none⟩, 1, rfl, ?_, Nat.le_refl _, by unfold maxLen; omega⟩
          have := (rd_litE w2 x).kept (by simp) (Kept.alloc0 _ (.cells #[.slice A l.length c, .slice (some ⟨w2.heap.size, 0, none⟩) 1 1] 25)) (.inl (Nat.le_refl _))
          rw [← hU] at this
          exact this.wide (by omega)
    have HU := Lib.hid hU
    clear hU
    have CC := Lib.hid (concat_any [.slice A l.length c, .slice (some ⟨w2.heap.size, 0, none⟩) 1 1] [l, [x]] (w2.heap.size + 1) 2 U MU.out (by simp; omega) (by simp))
    rw [show [l, [x]].length = 2 from rfl, show [l, [x]].flatten = l ++ [x] from by simp] at CC
    go_wp2_with fail
    rw [← HU.out]
    with_reducible refine CC.out.mono ?_
    rintro e w3 ⟨_, rfl, ⟨D2, d2, rfl, ho⟩, hk⟩
    have O2 : Hid (OwnEv w3 w.heap.size w3.heap.size (.slice D2 (l.length + 1) d2) (l ++ [x])) := by
      show OwnEv _ _ _ _ _
      exact ⟨D2, d2, by simp, ho.wide (by omega) (Nat.le_refl _)⟩
    have K3 := Lib.hid ((K2.out.trans KU.out).trans hk)
    clear ho hk MU HU KU CC b0 b1 b2 b3
    go_wp2
    go_ret2
    rw [E.out, EL.out]
    exact ⟨_, rfl, O2.out, K3.out⟩

set_option maxHeartbeats 1600000 in
set_option maxRecDepth 100000 in
theorem implDone (t : List Nd) (l : List Ev) (v u : Value) (a0 a1 : Addr) (w : World) (hs : Sen w a0 a1) (h : RdNd w w.heap.size v t) (h' : RdEv w w.heap.size u l) :
    Calls Tryd.prog 19 #[v, u] w fun e w' => ∃ z, e = .returned z ∧ OwnI w' w.heap.size w'.heap.size z (doneL t l) ∧ Kept 0 0 w w' := by
  have CO := Lib.hid (implEvents t l v u a0 a1 w hs h h')
  have HT := Lib.hid h
  have H := Lib.hid h'
  have HS := Lib.hid hs
  have HI := Lib.hid iSlice
  clear hs h'
  obtain ⟨A, c, rfl, h⟩ := h
  clear h
  cases q1 : eventsB t l
  · have EL : Hid (doneL t l = []) := by show _ = _; simp [doneL, q1]
    rw [q1] at CO
    clear q1
    go_enter Tryd.func19, Tryd.ntmps19
    go_wp2_with fail
    with_reducible refine CO.out.mono ?_
    rintro e w1 ⟨rfl, hk⟩
    have K1 := Lib.hid hk
    clear hk CO
    go_wp2
    go_ret
    rw [EL.out]
    exact ⟨_, rfl, OwnI.nil _ _ _, K1.out⟩
  have L : t.length ≤ 60 := (eventsB_true.1 q1).1.len
  have EL : Hid (doneL t l = doneTo t l t.length) := by show _ = _; simp [doneL, q1]
  rw [q1] at CO
  clear q1
  go_enter Tryd.func19, Tryd.ntmps19
  go_wp2_with fail
  with_reducible refine CO.out.mono ?_
  rintro e w1 ⟨rfl, hk⟩
  have K1 := Lib.hid hk
  clear hk CO
  go_wp2_with fail
  go_loopw [5, 13] (fun out i wr => ∃ (k : Nat) (D : Option Addr) (d : Nat) (ks : List Int), k ≤ t.length ∧ i = .int .i64 k ∧ out = .slice D ks.length d ∧ Hid (ks = doneTo t l k) ∧ Hid (wr.ownsRow w.heap.size 2 1 (.slice D ks.length d) ks.length (iR.flat ks)) ∧ Hid (Kept 0 0 w wr)) (fun _ i _ => t.length - (intOf i).toNat)
  case atStart => exact ⟨0, none, 0, [], Nat.zero_le _, rfl, rfl, Lib.hid rfl, Lib.hid (World.ownsRow_nil _ _ _ _), K1⟩
  case round =>
    clear K1
    obtain ⟨k, D, d, ks, hk, rfl, rfl, HKS, HO, HK⟩ := hrel
    have z := HK.out.size
    by_cases hlt : k < t.length
    · have i1 : (k : Int) < (t.length : Int) := by omega
      have HL : ks.length ≤ 60 := by rw [HKS.out]; have := doneTo_len t l k; omega
      go_wp2_with fail
      with_reducible refine (endAmong_any t l k _ u a0 a1 wr (HS.out.kept HK.out) (HT.out.up HK.out) (H.out.up HK.out)).mono ?_
      rintro e w2 ⟨rfl, hk2⟩
      have K2 := Lib.hid (HK.out.trans hk2)
      have O2 := Lib.hid (row_kept HO.out hk2)
      clear hk2 HK HO
      have z2 := K2.out.size
      cases q2 : firstO (chainL t (k : Int)) l with
      | none =>
        have E : Hid (ks = doneTo t l (k + 1)) := by show _ = _; rw [doneTo_succ, q2, HKS.out]; rfl
        clear q2
        unfold endV
        go_wp2
        go_roundw
        case rel => exact ⟨k + 1, D, d, ks, by omega, by go_num, rfl, E, O2, K2⟩
        case measure => simp [intOf]; omega
      | some y =>
        have E : Hid (ks ++ [(k : Int)] = doneTo t l (k + 1)) := by show _ = _; rw [doneTo_succ, q2, HKS.out]; rfl
        clear q2
        unfold endV doneV
        go_wp2_with (at_builtin; refine wpList_app (R := iR) rfl (.tmp 21) (.tmp 23) rfl HI.out w.heap.size D d ks rfl (row_kept O2.out (Kept.alloc0 w2 (.cells #[.int .i64 k] 2))) (w2.heap.size + 1) (some ⟨w2.heap.size, 0, none⟩) 1 [(k : Int)] rfl (rd_litI w2 k) (by simp [maxLen]; omega) (by simp; omega) (by simp; omega) ?_; intro D1 d1 w3 hown hgrow hat)
        have K3 := Lib.hid ((K2.out.alloc (.cells #[.int .i64 k] 2)).app hgrow (fun g hg => (own_row_lo O2.out g hg).1))
        have O3 := Lib.hid hown
        clear hown hgrow hat K2 O2
        go_roundw
        case rel => exact ⟨k + 1, D1, d1, ks ++ [(k : Int)], by omega, by go_num, by simp, E, O3, K3⟩
        case measure => simp [intOf]; omega
    · go_wp2
      go_ret
      have hk' : k = t.length := by omega
      rw [EL.out, ← hk', ← HKS.out]
      exact ⟨_, rfl, ⟨D, d, rfl, OwnZ.of_row HO.out⟩, HK.out⟩
end Go.Proofs.YtgahjachkeoflaaDoor
