/- The program's isEvent, mayFollow, EventsOk and endOf; conditions: the slices can be read, the tree is valid (isEvent, mayFollow), the two sentinels lie where the program laid them. -/
import Derived.Test.YtgahjachkeoflaaDoorXu
namespace Go.Proofs.YtgahjachkeoflaaDoor
open Go.RowKit Go.Sort

set_option maxHeartbeats 3200000 in
theorem isEvent_any (t : List Nd) (e : Ev) (v : Value) (w : World) (o : TreeP t) (h : RdNd w w.heap.size v t) :
    Calls Tryd.prog 66 #[v, .agg #[.int .i64 e.node, .int .i64 e.err, .int .i64 e.cause, .int .i64 e.time]] w fun e' w' => e' = .returned (.bool (evB t e)) ∧ Kept 0 0 w w' := by
  have L := o.len
  have H := Lib.hid h
  have OK := Lib.hid o
  obtain ⟨nd, er, ca, ti⟩ := e
  obtain ⟨W, hW⟩ : ∃ W, W = w.alloc (.cells #[.int .i64 nd, .int .i64 er, .int .i64 ca, .int .i64 ti] 27) := ⟨_, rfl⟩
  have KW : Hid (Kept 0 0 w W) := by show Kept _ _ _ _; rw [hW]; exact Kept.alloc0 _ _
  have B0 : Hid (Blk W w.heap.size 27 #[.int .i64 nd, .int .i64 er, .int .i64 ca, .int .i64 ti]) := by show Blk _ _ _ _; rw [hW]; exact Blk.new _ _ _
  have CH := Lib.hid (implHas t nd v W (H.out.up KW.out))
  have HW := Lib.hid hW
  clear hW o
  obtain ⟨A, c, rfl, h⟩ := h
  clear h
  by_cases hin : 0 ≤ nd ∧ nd < t.length
  · have EH : hasB t nd = true := hasB_true.2 ⟨OK.out, hin⟩
    rw [EH] at CH
    clear EH
    obtain ⟨k, rfl⟩ := Int.eq_ofNat_of_zero_le hin.1
    have hkl : k < t.length := by omega
    obtain ⟨x, hx⟩ : ∃ x, x = t[k] := ⟨_, rfl⟩
    have EV : Hid (evB t ⟨(k : Int), er, ca, ti⟩ = if er = 1 then (decide (x.kind = 1) || decide (x.kind = 2)) && (decide (0 ≤ ca) && decide (ca ≤ 999)) else decide (er = 2) && decide (x.kind = 2) && dueB ti x.due && decide (ca = 0)) := by
      show _ = _
      unfold evB
      have EI : (decide ((0 : Int) ≤ (k : Int)) && decide ((k : Int) ≤ (t.length : Int) - 1)) = true := by simp; omega
      simp only [EI, Bool.true_and, ndAt_nat t hkl, ← hx]
    have i1 : (k : Int) < (t.length : Int) := by omega
    clear hin
    go_enter Tryd.func66, Tryd.ntmps66
    go_wp2_with fail
    rw [← HW.out]
    with_reducible refine CH.out.mono ?_
    rintro e' w1 ⟨rfl, hk⟩
    have K1 := Lib.hid (KW.out.trans hk)
    have B1 := Lib.hid (B0.out.kept hk (.inl (Nat.le_refl _)))
    clear hk CH KW B0 HW
    obtain ⟨A', c', e', s'⟩ := H.out.kept (Nat.le_refl _) K1.out (.inl (Nat.le_refl _))
    injection e' with e1 _ e2
    subst e1 e2
    obtain ⟨ad, rfl, _, c0, c1, c2, c3, c4⟩ := s'.rd.nd hkl
    rw [← hx] at c0 c1 c2 c3 c4
    clear s' hx
    have b0 := B1.out.cell 0
    have y1 := B1.out.lt
    obtain ⟨V, hV⟩ : ∃ V, V = w1.alloc (.cells #[.int .i64 x.kind, .int .i64 x.up, .int .i64 x.due, .int .i64 x.key, .int .i64 x.value] 80) := ⟨_, rfl⟩
    have KV : Hid (Kept 0 0 w V) := by show Kept _ _ _ _; rw [hV]; exact K1.out.alloc _
    have BV : Hid (Blk V w1.heap.size 80 #[.int .i64 x.kind, .int .i64 x.up, .int .i64 x.due, .int .i64 x.key, .int .i64 x.value]) := by show Blk _ _ _ _; rw [hV]; exact Blk.new _ _ _
    have BW : Hid (Blk V w.heap.size 27 #[.int .i64 (k : Int), .int .i64 er, .int .i64 ca, .int .i64 ti]) := by show Blk _ _ _ _; rw [hV]; exact B1.out.alloc _
    have HV := Lib.hid hV
    clear hV
    go_upto_region 4 with fail
    rw [← HV.out]
    clear b0 c0 c1 c2 c3 c4 HV K1 B1
    have bw1 := BW.out.cell 1
    have bw2 := BW.out.cell 2
    have bw3 := BW.out.cell 3
    have bv0 := BV.out.cell 0
    have bv2 := BV.out.cell 2
    by_cases h1 : er = 1
    · subst h1
      rw [if_pos rfl] at EV
      by_cases hk12 : x.kind = 1 ∨ x.kind = 2
      · have E0 : Hid (evB t ⟨(k : Int), 1, ca, ti⟩ = (decide (0 ≤ ca) && decide (ca ≤ 999))) := by show _ = _; rw [EV.out]; rcases hk12 with h | h <;> simp [h]
        clear EV
        by_cases hc0 : 0 ≤ ca
        · have g3 : decide (0 ≤ ca) = true := by simpa using hc0
          by_cases hc1 : ca ≤ 999
          · have g4 : decide (ca ≤ 999) = true := by simpa using hc1
            have E : Hid (true = evB t ⟨(k : Int), 1, ca, ti⟩) := by show _ = _; rw [E0.out, g3, g4]; rfl
            clear E0 hc0 hc1
            rcases hk12 with hk1 | hk2
            · have g : (x.kind == 1) = true := by simpa using hk1
              clear hk1
              go_wp2
              go_ret
              exact ⟨ret_bool E.out, KV.out⟩
            · have g : (x.kind == 2) = true := by simpa using hk2
              have g' : (x.kind == 1) = false := by simp [hk2]
              clear hk2
              go_wp2
              go_ret
              exact ⟨ret_bool E.out, KV.out⟩
          · have g4 : decide (ca ≤ 999) = false := by simpa using hc1
            have E : Hid (false = evB t ⟨(k : Int), 1, ca, ti⟩) := by show _ = _; rw [E0.out, g3, g4]; rfl
            clear E0 hc0 hc1
            rcases hk12 with hk1 | hk2
            · have g : (x.kind == 1) = true := by simpa using hk1
              clear hk1
              go_wp2
              go_ret
              exact ⟨ret_bool E.out, KV.out⟩
            · have g : (x.kind == 2) = true := by simpa using hk2
              have g' : (x.kind == 1) = false := by simp [hk2]
              clear hk2
              go_wp2
              go_ret
              exact ⟨ret_bool E.out, KV.out⟩
        · have g3 : decide (0 ≤ ca) = false := by simpa using hc0
          have E : Hid (false = evB t ⟨(k : Int), 1, ca, ti⟩) := by show _ = _; rw [E0.out, g3]; rfl
          clear E0 hc0
          rcases hk12 with hk1 | hk2
          · have g : (x.kind == 1) = true := by simpa using hk1
            clear hk1
            go_wp2
            go_ret
            exact ⟨ret_bool E.out, KV.out⟩
          · have g : (x.kind == 2) = true := by simpa using hk2
            have g' : (x.kind == 1) = false := by simp [hk2]
            clear hk2
            go_wp2
            go_ret
            exact ⟨ret_bool E.out, KV.out⟩
      · have g : (x.kind == 1) = false := by simp; exact fun h => hk12 (.inl h)
        have g2 : (x.kind == 2) = false := by simp; exact fun h => hk12 (.inr h)
        have E : Hid (false = evB t ⟨(k : Int), 1, ca, ti⟩) := by show _ = _; rw [EV.out]; simp only [not_or] at hk12; simp [hk12]
        clear EV hk12
        go_wp2
        go_ret
        exact ⟨ret_bool E.out, KV.out⟩
    · have g1 : (er == 1) = false := by simpa using h1
      rw [if_neg h1] at EV
      by_cases h2 : er = 2
      · subst h2
        by_cases hk2 : x.kind = 2
        · have g2 : (x.kind == 2) = true := by simpa using hk2
          have E0 : Hid ((dueB ti x.due && decide (ca = 0)) = evB t ⟨(k : Int), 2, ca, ti⟩) := by show _ = _; rw [EV.out]; simp [hk2]
          clear EV hk2 g1 h1
          go_wp2_with fail
          with_reducible refine (dueP_any _ _ _).mono ?_
          rintro e' w' ⟨rfl, rfl⟩
          cases hd : dueB ti x.due
          · have E : Hid (false = evB t ⟨(k : Int), 2, ca, ti⟩) := by show _ = _; rw [← E0.out, hd]; rfl
            clear E0 hd
            go_wp2
            go_ret
            exact ⟨ret_bool E.out, KV.out⟩
          · by_cases hc : ca = 0
            · subst hc
              have E : Hid (true = evB t ⟨(k : Int), 2, 0, ti⟩) := by show _ = _; rw [← E0.out, hd]; rfl
              clear E0 hd
              go_wp2
              go_ret
              exact ⟨ret_bool E.out, KV.out⟩
            · have g3 : (ca == 0) = false := by simpa using hc
              have E : Hid (false = evB t ⟨(k : Int), 2, ca, ti⟩) := by show _ = _; rw [← E0.out, hd]; simp [hc]
              clear E0 hd hc
              go_wp2
              go_ret
              exact ⟨ret_bool E.out, KV.out⟩
        · have g2 : (x.kind == 2) = false := by simpa using hk2
          have E : Hid (false = evB t ⟨(k : Int), 2, ca, ti⟩) := by show _ = _; rw [EV.out]; simp [hk2]
          clear EV hk2 g1 h1
          go_wp2
          go_ret
          exact ⟨ret_bool E.out, KV.out⟩
      · have g2 : (er == 2) = false := by simpa using h2
        have E : Hid (false = evB t ⟨(k : Int), er, ca, ti⟩) := by show _ = _; rw [EV.out]; simp [h2]
        clear EV h1 h2
        go_wp2
        go_ret
        exact ⟨ret_bool E.out, KV.out⟩
  · have EI : Hid ((decide (0 ≤ nd) && decide (nd ≤ (t.length : Int) - 1)) = false) := by
      show _ = _
      rcases Int.lt_or_le nd 0 with h | h
      · simp; omega
      · simp; omega
    have E : Hid (false = evB t ⟨nd, er, ca, ti⟩) := by
      show _ = _
      unfold evB
      simp only [EI.out, Bool.false_and]
    have EH : hasB t nd = false := by
      cases hb : hasB t nd with
      | false => rfl
      | true => exact absurd (hasB_true.1 hb).2 hin
    rw [EH] at CH
    clear hin EH
    go_enter Tryd.func66, Tryd.ntmps66
    go_wp2_with fail
    rw [← HW.out]
    with_reducible refine CH.out.mono ?_
    rintro e' w1 ⟨rfl, hk⟩
    have K1 := Lib.hid (KW.out.trans hk)
    clear hk CH
    go_wp2
    go_ret
    exact ⟨ret_bool E.out, K1.out⟩

set_option maxHeartbeats 3200000 in
theorem mayFollow_any (t : List Nd) (l : List Ev) (x : Ev) (v u : Value) (a0 a1 : Addr) (w : World) (hs : Sen w a0 a1) (o : TreeP t) (h : RdNd w w.heap.size v t) (h' : RdEv w w.heap.size u l) :
    Calls Tryd.prog 46 #[v, u, .agg #[.int .i64 x.node, .int .i64 x.err, .int .i64 x.cause, .int .i64 x.time]] w fun e w' => e = .returned (.bool (mayB t l x)) ∧ Kept 0 0 w w' := by
  have HT := Lib.hid h
  have H := Lib.hid h'
  have HS := Lib.hid hs
  have hm := h'.len
  unfold maxLen at hm
  obtain ⟨W, hW⟩ : ∃ W, W = w.alloc (.cells #[.int .i64 x.node, .int .i64 x.err, .int .i64 x.cause, .int .i64 x.time] 27) := ⟨_, rfl⟩
  have KW : Hid (Kept 0 0 w W) := by show Kept _ _ _ _; rw [hW]; exact Kept.alloc0 _ _
  have B0 : Hid (Blk W w.heap.size 27 #[.int .i64 x.node, .int .i64 x.err, .int .i64 x.cause, .int .i64 x.time]) := by show Blk _ _ _ _; rw [hW]; exact Blk.new _ _ _
  have HW := Lib.hid hW
  have CI := Lib.hid (isEvent_any t x v W o (HT.out.up KW.out))
  clear hW h hs o
  obtain ⟨A, c, rfl, h'⟩ := h'
  clear h'
  have b0 := B0.out.cell 0
  have b1 := B0.out.cell 1
  have b2 := B0.out.cell 2
  have b3 := B0.out.cell 3
  have EM : Hid (mayB t l x = (evB t x && ((firstO (chainL t x.node) l).isNone && lateB l x.time))) := rfl
  go_enter Tryd.func46, Tryd.ntmps46
  go_wp2_with fail
  rw [← HW.out]
  with_reducible refine CI.out.mono ?_
  rintro e w1 ⟨rfl, hk⟩
  have K1 := Lib.hid (KW.out.trans hk)
  have B1 := Lib.hid (B0.out.kept hk (.inl (Nat.le_refl _)))
  clear hk CI KW B0 HW b0 b1 b2 b3
  cases q1 : evB t x
  · have E : Hid (false = mayB t l x) := by show _ = _; rw [EM.out, q1, Bool.false_and]
    clear q1 EM
    go_wp2
    go_ret
    exact ⟨ret_bool E.out, K1.out⟩
  rw [q1, Bool.true_and] at EM
  clear q1
  have c0 := B1.out.cell 0
  have CE := Lib.hid (endAmong_any t l x.node v _ a0 a1 w1 (HS.out.kept K1.out) (HT.out.up K1.out) (H.out.up K1.out))
  go_wp2_with fail
  with_reducible refine CE.out.mono ?_
  rintro e w2 ⟨rfl, hk⟩
  have K2 := Lib.hid (K1.out.trans hk)
  have B2 := Lib.hid (B1.out.kept hk (.inl (Nat.le_refl _)))
  clear hk CE K1 B1 c0
  have b3 := B2.out.cell 3
  cases q2 : firstO (chainL t x.node) l with
  | some y =>
    have E : Hid (false = mayB t l x) := by show _ = _; rw [EM.out, q2]; rfl
    clear q2 EM
    unfold endV doneV
    go_wp2
    go_ret
    exact ⟨ret_bool E.out, K2.out⟩
  | none =>
    rw [q2, show (none : Option Ev).isNone = true from rfl, Bool.true_and] at EM
    clear q2
    unfold endV
    unfold lateB at EM
    rcases Nat.eq_zero_or_pos l.length with h0 | h0
    · have E : Hid (true = mayB t l x) := by show _ = _; rw [EM.out, decide_eq_true h0, Bool.true_or]
      clear EM
      have g : ((l.length : Int) == 0) = true := by simp; exact List.length_eq_zero_iff.1 h0
      have k3 := cell_regrown b3
      clear b3
      go_wp2_with fail
      refine wp_region_quiet_below (by kernel_rfl) (by kernel_rfl) ?_
      repeat (first | go_big_quiet_step (fail) | quiet_step (fail))
      refine wpQuiet_nil ?_
      intro _ hw'
      obtain ⟨⟨dq, osq⟩, hw''⟩ := hw'
      subst hw''
      clear k3
      go_wp2
      go_ret
      exact ⟨ret_bool E.out, K2.out.trans (Kept.regrown _ _ _)⟩
    · obtain ⟨j, hj⟩ : ∃ j, l.length = j + 1 := ⟨l.length - 1, by omega⟩
      have hjl : j < l.length := by omega
      rw [decide_eq_false (show ¬ l.length = 0 by omega), Bool.false_or, show l.length - 1 = j by omega, evAt_of hjl] at EM
      have g : ((l.length : Int) == 0) = false := by simp; intro h; rw [h] at h0; simp at h0
      have g2 : IntKind.i64.wrap ((l.length : Int) - 1) = (j : Int) := (IntWalk.i64_in _ (by omega)).trans (by omega)
      have g3 : (l.length : Int) - 1 = (j : Int) := by omega
      have i1 : (j : Int) < (l.length : Int) := by omega
      obtain ⟨A', c', e', s'⟩ := H.out.kept (Nat.le_refl _) K2.out (.inl (Nat.le_refl _))
      injection e' with e1 _ e2
      subst e1 e2
      obtain ⟨ad, rfl, _, c0, c1, c2, c3⟩ := s'.rd.ev hjl
      clear s' c0 c1 c2
      have HJ := Lib.hid hj
      clear hj h0
      have E : Hid (decide (l[j].time ≤ x.time) = mayB t l x) := EM.out.symm
      clear EM
      have k3 := cell_regrown b3
      have j3 := cell_regrown c3
      clear b3 c3
      go_wp2_with fail
      refine wp_region_quiet_below (by kernel_rfl) (by kernel_rfl) ?_
      repeat (first | go_big_quiet_step (fail) | quiet_step (fail))
      refine wpQuiet_nil ?_
      intro _ hw'
      obtain ⟨⟨dq, osq⟩, hw''⟩ := hw'
      subst hw''
      clear k3 j3
      go_wp2
      go_ret
      exact ⟨ret_bool E.out, K2.out.trans (Kept.regrown _ _ _)⟩

set_option maxHeartbeats 3200000 in
theorem implEvents (t : List Nd) (l : List Ev) (v u : Value) (a0 a1 : Addr) (w : World) (hs : Sen w a0 a1) (h : RdNd w w.heap.size v t) (h' : RdEv w w.heap.size u l) :
    Calls Tryd.prog 22 #[v, u] w fun e w' => e = .returned (.bool (eventsB t l)) ∧ Kept 0 0 w w' := by
  have CO := Lib.hid (implTreeOk t v w h)
  have HT := Lib.hid h
  have H := Lib.hid h'
  have HS := Lib.hid hs
  have hm := h'.len
  unfold maxLen at hm
  clear h hs
  obtain ⟨A, c, rfl, h'⟩ := h'
  clear h'
  go_enter Tryd.func22, Tryd.ntmps22
  go_wp2_with fail
  with_reducible refine CO.out.mono ?_
  rintro e w1 ⟨rfl, hk⟩
  have K1 := Lib.hid hk
  clear hk CO
  cases q1 : treeB t
  · have E : Hid (eventsB t l = false) := not_events_tree q1
    clear q1
    go_wp2
    go_ret
    exact ⟨ret_bool E.out.symm, K1.out⟩
  have OK := Lib.hid (treeB_true.1 q1)
  clear q1
  go_wp2_with fail
  go_loopw [12] (fun i wr => ∃ k : Nat, k ≤ l.length ∧ i = .int .i64 k ∧ Hid (PreE t l k) ∧ Hid (Kept 0 0 w wr)) (fun i _ => l.length - (intOf i).toNat)
  case atStart => exact ⟨0, Nat.zero_le _, rfl, Lib.hid (PreE.zero _ _), K1⟩
  case round =>
    clear K1
    obtain ⟨k, hk, rfl, HP, K⟩ := hrel
    by_cases hlt : k < l.length
    · obtain ⟨A', c', e', s'⟩ := H.out.kept (Nat.le_refl _) K.out (.inl (Nat.le_refl _))
      injection e' with e1 _ e2
      subst e1 e2
      obtain ⟨ad, rfl, _, c0, c1, c2, c3⟩ := s'.rd.ev hlt
      have HCC := Lib.hid (show l.length ≤ c ∧ c ≤ maxLen from ⟨s'.cap, s'.max⟩)
      clear s'
      have i1 : (k : Int) < (l.length : Int) := by omega
      have kc : k ≤ c := by have := HCC.out.1; omega
      have kc2 : (k : Int) ≤ (c : Int) := by omega
      have cm := HCC.out.2
      unfold maxLen at cm
      obtain ⟨x, hx⟩ : ∃ x, x = l[k] := ⟨_, rfl⟩
      have HX := Lib.hid hx
      rw [← hx] at c0 c1 c2 c3
      clear hx
      obtain ⟨W, hW⟩ : ∃ W, W = wr.alloc (.cells #[.int .i64 x.node, .int .i64 x.err, .int .i64 x.cause, .int .i64 x.time] 27) := ⟨_, rfl⟩
      have KW : Hid (Kept 0 0 w W) := by show Kept _ _ _ _; rw [hW]; exact K.out.alloc _
      have B0 : Hid (Blk W wr.heap.size 27 #[.int .i64 x.node, .int .i64 x.err, .int .i64 x.cause, .int .i64 x.time]) := by show Blk _ _ _ _; rw [hW]; exact Blk.new _ _ _
      have HW := Lib.hid hW
      clear hW K
      have CF := Lib.hid (fun d os => regrown_call (mayFollow_any t (l.take k) x v (.slice (some ad) k c) a0 a1 (grow (redrawn W d) os) (HS.out.kept (KW.out.trans (Kept.regrown _ _ _))) OK.out (HT.out.up (KW.out.trans (Kept.regrown _ _ _))) ((H.out.up (KW.out.trans (Kept.regrown _ _ _))).take hk)))
      go_upto_region 6 with fail
      rw [← HW.out]
      clear c0 c1 c2 c3 HW
      have b0 := cell_regrown (B0.out.cell 0)
      have b1 := cell_regrown (B0.out.cell 1)
      have b2 := cell_regrown (B0.out.cell 2)
      have b3 := cell_regrown (B0.out.cell 3)
      go_wp2_with fail
      cases q2 : mayB t (l.take k) x
      · have E : Hid (eventsB t l = false) := not_events_at hlt (by rw [← HX.out]; exact q2)
        rw [q2] at CF
        clear q2
        refine wp_region_quiet_below (by kernel_rfl) (by kernel_rfl) ?_
        repeat (first | go_big_quiet_step (with_reducible exact CF.out _ _) | quiet_step (with_reducible exact CF.out _ _))
        refine wpQuiet_nil ?_
        intro _ hw'
        obtain ⟨⟨dq, osq⟩, hw''⟩ := hw'
        subst hw''
        clear b0 b1 b2 b3 CF
        go_wp2
        go_ret
        exact ⟨ret_bool E.out.symm, KW.out.trans (Kept.regrown _ _ _)⟩
      · have HP2 : Hid (PreE t l (k + 1)) := HP.out.succ hlt (by rw [← HX.out]; exact q2)
        rw [q2] at CF
        clear q2 HP
        refine wp_region_quiet_below (by kernel_rfl) (by kernel_rfl) ?_
        repeat (first | go_big_quiet_step (with_reducible exact CF.out _ _) | quiet_step (with_reducible exact CF.out _ _))
        refine wpQuiet_nil ?_
        intro _ hw'
        obtain ⟨⟨dq, osq⟩, hw''⟩ := hw'
        subst hw''
        clear b0 b1 b2 b3 CF
        go_wp2
        go_roundw
        case rel => exact ⟨k + 1, by omega, by go_num, HP2, Lib.hid (KW.out.trans (Kept.regrown _ _ _))⟩
        case measure => simp [intOf]; omega
    · have E : Hid (eventsB t l = true) := HP.out.all OK.out (by omega)
      go_wp2
      go_ret
      exact ⟨ret_bool E.out.symm, K.out⟩

/-- The end of a node among events that are checked first. -/
theorem endOf_any (t : List Nd) (l : List Ev) (n : Int) (v u : Value) (a0 a1 : Addr) (w : World) (hs : Sen w a0 a1) (h : RdNd w w.heap.size v t) (h' : RdEv w w.heap.size u l) :
    Calls Tryd.prog 54 #[v, u, .int .i64 n] w fun e w' => e = .returned (endV a0 a1 (fstO t l n)) ∧ Kept 0 0 w w' := by
  have CO := Lib.hid (implEvents t l v u a0 a1 w hs h h')
  have HT := Lib.hid h
  have H := Lib.hid h'
  have HS := Lib.hid hs
  clear h hs h'
  go_enter Tryd.func54, Tryd.ntmps54
  go_wp2_with fail
  with_reducible refine CO.out.mono ?_
  rintro e w1 ⟨rfl, hk⟩
  have K1 := Lib.hid hk
  clear hk CO
  cases q1 : eventsB t l
  · have E : Hid (endV a0 a1 (fstO t l n) = .nilIface) := by show _ = _; simp [fstO, q1, endV]
    clear q1
    go_wp2
    go_ret
    exact ⟨by rw [E.out]; rfl, K1.out⟩
  · have E : Hid (fstO t l n = firstO (chainL t n) l) := by show _ = _; simp [fstO, q1]
    clear q1
    go_wp2_with fail
    with_reducible refine (endAmong_any t l n v u a0 a1 w1 (HS.out.kept K1.out) (HT.out.up K1.out) (H.out.up K1.out)).mono ?_
    rintro e w2 ⟨rfl, hk⟩
    have K2 := Lib.hid (K1.out.trans hk)
    clear hk
    go_wp2
    go_ret
    exact ⟨by rw [E.out]; rfl, K2.out⟩
end Go.Proofs.YtgahjachkeoflaaDoor
