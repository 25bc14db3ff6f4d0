/- The reference's functions of events: a number in a slice, the first event of a node, whether an event is one of a tree, validity; no condition beyond that the slices can be read. -/
import Derived.Test.YtgahjachkeoflaaDoorXp
import Derived.Test.YtgahjachkeoflaaDoorNv
namespace Go.Proofs.YtgahjachkeoflaaDoor
open Go.RowKit Go.Sort

theorem RdR.take {α : Type} {R : Rec α} {w : World} {B : Nat} {A : Option Addr} {xs : List α} (h : RdR R w B A xs) (k : Nat) : RdR R w B A (xs.take k) := by
  refine ⟨by have := h.1; simp; omega, fun hn => ?_⟩
  obtain ⟨ad, e, hb, hc⟩ := h.2 (by simp at hn; omega)
  refine ⟨ad, e, hb, fun j u hu => hc j u ?_⟩
  rw [R.flat_take] at hu
  have hj := (List.getElem?_eq_some_iff.1 hu).1
  rwa [List.getElem?_take_of_lt (by simp at hj; omega)] at hu
theorem RdEv.take {w : World} {B n c k : Nat} {A : Option Addr} {xs : List Ev} (h : RdEv w B (.slice A n c) xs) (hk : k ≤ xs.length) : RdEv w B (.slice A k c) (xs.take k) := by
  obtain ⟨A', c', e, s⟩ := h
  injection e with e1 e2 e3
  subst e1 e3
  exact ⟨A, c, by rw [List.length_take, Nat.min_eq_left hk], s.rd.take k, by have := s.cap; simp; omega, s.max⟩
theorem late_take {l : List Ev} {k : Nat} (hk : k < l.length) (q : Int) : lateB (l.take k) q = (decide (k = 0) || decide ((evAt l (k - 1)).time ≤ q)) := by
  unfold lateB
  rw [List.length_take, Nat.min_eq_left (Nat.le_of_lt hk)]
  rcases Nat.eq_zero_or_pos k with h0 | h0
  · subst h0; simp
  · rw [show evAt (l.take k) (k - 1) = evAt l (k - 1) from by unfold evAt; rw [List.getElem?_take_of_lt (by omega)]]

theorem dueS_any (now a : Int) (w : World) : Calls Tryd.prog 70 #[.int .i64 now, .int .i64 a] w fun e w' => e = .returned (.bool (dueB now a)) ∧ w = w' := by
  have E : Hid (dueB now a = (decide (a ≤ now) && decide (a ≠ 9223372036854775807))) := by show _ = _; rfl
  by_cases h : a ≤ now
  · have g : decide (a ≤ now) = true := by simpa using h
    by_cases h2 : a = 9223372036854775807
    · have g2 : (a != 9223372036854775807) = false := by simp [h2]
      have E2 : Hid (dueB now a = false) := by show _ = _; rw [E.out]; simp [h2]
      clear h2
      go_enter Tryd.func70, Tryd.ntmps70
      go_wp2
      go_ret
      exact ⟨ret_bool E2.out.symm, rfl⟩
    · have g2 : (a != 9223372036854775807) = true := by simpa using h2
      have E2 : Hid (dueB now a = true) := by show _ = _; rw [E.out]; simp [h2, h]
      clear h2
      go_enter Tryd.func70, Tryd.ntmps70
      go_wp2
      go_ret
      exact ⟨ret_bool E2.out.symm, rfl⟩
  · have g : decide (a ≤ now) = false := by simpa using h
    have E2 : Hid (dueB now a = false) := by show _ = _; rw [E.out]; simp [h]
    go_enter Tryd.func70, Tryd.ntmps70
    go_wp2
    go_ret
    exact ⟨ret_bool E2.out.symm, rfl⟩

set_option maxHeartbeats 800000 in
theorem in6_any (xs : List Int) (x : Int) (v : Value) (w : World) (h : RdI w w.heap.size v xs) :
    Calls Tryd.prog 71 #[v, .int .i64 x] w fun e w' => e = .returned (.bool (decide (x ∈ xs))) ∧ Kept 0 0 w w' := by
  obtain ⟨A, c, rfl, h⟩ := h
  have hl := h.rd.1
  unfold maxLen at hl
  have H := Lib.hid h.rd
  clear h
  go_enter Tryd.func71, Tryd.ntmps71
  go_wp2
  go_loopw [5] (fun i wr => ∃ k : Nat, k ≤ xs.length ∧ i = .int .i64 k ∧ Hid (∀ i (h : i < xs.length), i < k → xs[i] ≠ x) ∧ Hid (Kept 0 0 w wr)) (fun i _ => xs.length - (intOf i).toNat)
  case atStart => exact ⟨0, Nat.zero_le _, rfl, Lib.hid (fun i _ h => by omega), Lib.hid (Kept.refl _ _ _)⟩
  case round =>
    obtain ⟨k, hk, rfl, HN, HK⟩ := hrel
    by_cases hlt : k < xs.length
    · obtain ⟨ad, rfl, _, c0⟩ := (H.out.kept (Nat.le_refl _) HK.out (.inl (Nat.le_refl _))).i hlt
      have i1 : (k : Int) < (xs.length : Int) := by omega
      by_cases he : xs[k] = x
      · have E : Hid (decide (x ∈ xs) = true) := by show _ = _; rw [← he]; simp
        rw [he] at c0
        clear he
        go_wp2
        go_ret
        exact ⟨ret_bool E.out.symm, HK.out⟩
      · have he' : (xs[k] == x) = false := by simpa using he
        have HN2 : Hid (∀ i (h : i < xs.length), i < k + 1 → xs[i] ≠ x) := fun i hi hik => by
          rcases Nat.lt_or_ge i k with h' | h'
          · exact HN.out i hi h'
          · obtain rfl : i = k := by omega
            exact he
        clear he
        go_wp2
        go_roundw
        case rel => exact ⟨k + 1, by omega, by go_num, HN2, HK⟩
        case measure => simp [intOf]; omega
    · have E : Hid (decide (x ∈ xs) = false) := by
        show _ = _
        rw [decide_eq_false_iff_not]
        intro hx
        obtain ⟨i, hi, he⟩ := List.getElem_of_mem hx
        exact HN.out i hi (by omega) he
      go_wp2
      go_ret
      exact ⟨ret_bool E.out.symm, HK.out⟩

set_option maxHeartbeats 1600000 in
theorem first6_any (t : List Nd) (l : List Ev) (n : Int) (v u : Value) (w : World) (h : RdNd w w.heap.size v t) (h' : RdEv w w.heap.size u l) :
    Calls Tryd.prog 52 #[v, u, .int .i64 n] w fun e w' => e = .returned (.int .i64 (firstI (chainL t n) l)) ∧ Kept 0 0 w w' := by
  have CO := Lib.hid (chain5_any t n v w h)
  have hm := h'.len
  unfold maxLen at hm
  have H := Lib.hid h'
  clear h
  obtain ⟨A, c, rfl, h'⟩ := h'
  clear h'
  obtain ⟨q, hq⟩ : ∃ q, q = chainL t n := ⟨_, rfl⟩
  rw [← hq] at CO ⊢
  clear hq
  go_enter Tryd.func52, Tryd.ntmps52
  go_wp2_with fail
  with_reducible refine CO.out.mono ?_
  rintro e w1 ⟨z, rfl, ho, hk⟩
  have K1 := Lib.hid hk
  have S1 := Lib.hid (ho.rdW (Nat.le_refl _))
  clear hk ho CO
  go_wp2_with fail
  go_loopw [8] (fun i wr => ∃ k : Nat, k ≤ l.length ∧ i = .int .i64 k ∧ Hid (NoHit q l k) ∧ Hid (Kept 0 0 w wr) ∧ Hid (Kept 0 0 w1 wr)) (fun i _ => l.length - (intOf i).toNat)
  case atStart => exact ⟨0, Nat.zero_le _, rfl, Lib.hid (NoHit.zero _ _), K1, Lib.hid (Kept.refl _ _ _)⟩
  case round =>
    clear K1
    obtain ⟨k, hk, rfl, HN, K, K'⟩ := hrel
    by_cases hlt : k < l.length
    · obtain ⟨A', c', e', s'⟩ := H.out.kept (Nat.le_refl _) K.out (.inl (Nat.le_refl _))
      injection e' with e1 _ e2
      subst e1 e2
      obtain ⟨ad, rfl, _, c0, c1, c2, c3⟩ := s'.rd.ev hlt
      clear s' c1 c2 c3
      have i1 : (k : Int) < (l.length : Int) := by omega
      have CI := Lib.hid (in6_any q l[k].node z wr (S1.out.up K'.out))
      go_wp2_with fail
      with_reducible refine CI.out.mono ?_
      rintro e w2 ⟨rfl, hk2⟩
      have K2 := Lib.hid (K.out.trans hk2)
      have K2' := Lib.hid (K'.out.trans hk2)
      clear hk2 CI c0 K K'
      by_cases hx : l[k].node ∈ q
      · have E : Hid (firstI q l = k) := (HN.out.some hlt hx).2
        have g : decide (l[k].node ∈ q) = true := by simpa using hx
        clear hx
        go_wp2
        go_ret
        exact ⟨ret_int E.out.symm, K2.out⟩
      · have HN2 := Lib.hid (HN.out.succ hlt hx)
        have g : decide (l[k].node ∈ q) = false := by simpa using hx
        clear hx
        go_wp2
        go_roundw
        case rel => exact ⟨k + 1, by omega, by go_num, HN2, K2, K2'⟩
        case measure => simp [intOf]; omega
    · have E : Hid (firstI q l = -1) := (HN.out.none (by omega)).2
      go_wp2
      go_ret
      exact ⟨ret_int E.out.symm, K.out⟩

set_option maxHeartbeats 3200000 in
theorem event6_any (t : List Nd) (e : Ev) (v : Value) (w : World) (h : RdNd w w.heap.size v t) :
    Calls Tryd.prog 51 #[v, .agg #[.int .i64 e.node, .int .i64 e.err, .int .i64 e.cause, .int .i64 e.time]] w fun e' w' => e' = .returned (.bool (evB t e)) ∧ Kept 0 0 w w' := by
  have hm := h.len
  unfold maxLen at hm
  have H := Lib.hid h
  obtain ⟨A, c, rfl, h⟩ := h
  clear h
  obtain ⟨nd, er, ca, ti⟩ := e
  by_cases hin : 0 ≤ nd ∧ nd < t.length
  · obtain ⟨k, rfl⟩ := Int.eq_ofNat_of_zero_le hin.1
    have hkl : k < t.length := by omega
    have EI : Hid ((decide ((0 : Int) ≤ (k : Int)) && decide ((k : Int) ≤ (t.length : Int) - 1)) = true) := by show _ = _; simp; omega
    obtain ⟨x, hx⟩ : ∃ x, x = t[k] := ⟨_, rfl⟩
    have EV : Hid (evB t ⟨(k : Int), er, ca, ti⟩ = if er = 1 then (decide (x.kind = 1) || decide (x.kind = 2)) && (decide (0 ≤ ca) && decide (ca ≤ 999)) else decide (er = 2) && decide (x.kind = 2) && dueB ti x.due && decide (ca = 0)) := by
      show _ = _
      unfold evB
      simp only [EI.out, Bool.true_and, ndAt_nat t hkl, ← hx]
    obtain ⟨W, hW⟩ : ∃ W, W = w.alloc (.cells #[.int .i64 (k : Int), .int .i64 er, .int .i64 ca, .int .i64 ti] 27) := ⟨_, rfl⟩
    have KW : Hid (Kept 0 0 w W) := by show Kept _ _ _ _; rw [hW]; exact Kept.alloc0 _ _
    have B0 : Hid (Blk W w.heap.size 27 #[.int .i64 (k : Int), .int .i64 er, .int .i64 ca, .int .i64 ti]) := by show Blk _ _ _ _; rw [hW]; exact Blk.new _ _ _
    have HW := Lib.hid hW
    have yW := B0.out.lt
    clear hW hin
    have b0 := B0.out.cell 0
    obtain ⟨A', c', e', s'⟩ := H.out.kept (Nat.le_refl _) KW.out (.inl (Nat.le_refl _))
    injection e' with e1 _ e2
    subst e1 e2
    obtain ⟨ad, rfl, _, c0, c1, c2, c3, c4⟩ := s'.rd.nd hkl
    rw [← hx] at c0 c1 c2 c3 c4
    clear s' hx
    obtain ⟨V, hV⟩ : ∃ V, V = W.alloc (.cells #[.int .i64 x.kind, .int .i64 x.up, .int .i64 x.due, .int .i64 x.key, .int .i64 x.value] 80) := ⟨_, rfl⟩
    have KV : Hid (Kept 0 0 w V) := by show Kept _ _ _ _; rw [hV]; exact KW.out.alloc _
    have BV : Hid (Blk V W.heap.size 80 #[.int .i64 x.kind, .int .i64 x.up, .int .i64 x.due, .int .i64 x.key, .int .i64 x.value]) := by show Blk _ _ _ _; rw [hV]; exact Blk.new _ _ _
    have BW : Hid (Blk V w.heap.size 27 #[.int .i64 (k : Int), .int .i64 er, .int .i64 ca, .int .i64 ti]) := by show Blk _ _ _ _; rw [hV]; exact B0.out.alloc _
    have HV := Lib.hid hV
    clear hV
    have i1 : (k : Int) < (t.length : Int) := by omega
    go_enter Tryd.func51, Tryd.ntmps51
    go_wp2_with fail
    rw [← HW.out]
    with_reducible refine (l1In_any _ _ _ _).mono ?_
    rintro e' w' ⟨rfl, rfl⟩
    rw [EI.out]
    go_upto_region 4 with fail
    rw [← HV.out]
    clear b0 c0 c1 c2 c3 c4 HV HW KW B0 EI
    have bw1 := BW.out.cell 1
    have bw2 := BW.out.cell 2
    have bw3 := BW.out.cell 3
    have bv0 := BV.out.cell 0
    have bv2 := BV.out.cell 2
    by_cases h1 : er = 1
    · subst h1
      rw [if_pos rfl] at EV
      by_cases hk1 : x.kind = 1
      · have g : (x.kind == 1) = true := by simpa using hk1
        have E : Hid ((decide (0 ≤ ca) && decide (ca ≤ 999)) = evB t ⟨(k : Int), 1, ca, ti⟩) := by show _ = _; rw [EV.out]; simp [hk1]
        clear EV hk1
        go_wp2_with fail
        with_reducible refine (l1In_any _ _ _ _).mono ?_
        rintro e' w' ⟨rfl, rfl⟩
        rw [E.out]
        go_wp2
        go_ret
        exact ⟨rfl, KV.out⟩
      · have g : (x.kind == 1) = false := by simpa using hk1
        by_cases hk2 : x.kind = 2
        · have g2 : (x.kind == 2) = true := by simpa using hk2
          have E : Hid ((decide (0 ≤ ca) && decide (ca ≤ 999)) = evB t ⟨(k : Int), 1, ca, ti⟩) := by show _ = _; rw [EV.out]; simp [hk2]
          clear EV hk1 hk2
          go_wp2_with fail
          with_reducible refine (l1In_any _ _ _ _).mono ?_
          rintro e' w' ⟨rfl, rfl⟩
          rw [E.out]
          go_wp2
          go_ret
          exact ⟨rfl, KV.out⟩
        · have g2 : (x.kind == 2) = false := by simpa using hk2
          have E : Hid (false = evB t ⟨(k : Int), 1, ca, ti⟩) := by show _ = _; rw [EV.out]; simp [hk1, hk2]
          clear EV hk1 hk2
          go_wp2
          go_ret
          exact ⟨ret_bool E.out, KV.out⟩
    · have g1 : (er == 1) = false := by simpa using h1
      rw [if_neg h1] at EV
      by_cases h2 : er = 2
      · subst h2
        by_cases hk2 : x.kind = 2
        · have g2 : (x.kind == 2) = true := by simpa using hk2
          have E : Hid ((dueB ti x.due && decide (ca = 0)) = evB t ⟨(k : Int), 2, ca, ti⟩) := by show _ = _; rw [EV.out]; simp [hk2]
          clear EV hk2 g1 h1
          go_wp2_with fail
          with_reducible refine (dueS_any _ _ _).mono ?_
          rintro e' w' ⟨rfl, rfl⟩
          cases hd : dueB ti x.due
          · have E2 : Hid (false = evB t ⟨(k : Int), 2, ca, ti⟩) := by show _ = _; rw [← E.out, hd]; rfl
            clear E hd
            go_wp2
            go_ret
            exact ⟨ret_bool E2.out, KV.out⟩
          · by_cases hc : ca = 0
            · subst hc
              have E2 : Hid (true = evB t ⟨(k : Int), 2, 0, ti⟩) := by show _ = _; rw [← E.out, hd]; rfl
              clear E hd
              go_wp2
              go_ret
              exact ⟨ret_bool E2.out, KV.out⟩
            · have g3 : (ca == 0) = false := by simpa using hc
              have E2 : Hid (false = evB t ⟨(k : Int), 2, ca, ti⟩) := by show _ = _; rw [← E.out, hd]; simp [hc]
              clear E hd hc
              go_wp2
              go_ret
              exact ⟨ret_bool E2.out, KV.out⟩
        · have g2 : (x.kind == 2) = false := by simpa using hk2
          have E : Hid (false = evB t ⟨(k : Int), 2, ca, ti⟩) := by show _ = _; rw [EV.out]; simp [hk2]
          clear EV hk2 g1 h1
          go_wp2
          go_ret
          exact ⟨ret_bool E.out, KV.out⟩
      · have g2 : (er == 2) = false := by simpa using h2
        have E : Hid (false = evB t ⟨(k : Int), er, ca, ti⟩) := by show _ = _; rw [EV.out]; simp [h2]
        clear EV h1 h2
        go_wp2
        go_ret
        exact ⟨ret_bool E.out, KV.out⟩
  · have EI : Hid ((decide (0 ≤ nd) && decide (nd ≤ (t.length : Int) - 1)) = false) := by
      show _ = _
      rcases Int.lt_or_le nd 0 with h | h
      · simp; omega
      · simp; omega
    have E : Hid (false = evB t ⟨nd, er, ca, ti⟩) := by
      show _ = _
      unfold evB
      simp only [EI.out, Bool.false_and]
    clear hin
    go_enter Tryd.func51, Tryd.ntmps51
    go_wp2_with fail
    with_reducible refine (l1In_any _ _ _ _).mono ?_
    rintro e' w' ⟨rfl, rfl⟩
    rw [EI.out]
    go_wp2
    go_ret
    exact ⟨ret_bool E.out, Kept.alloc0 _ _⟩

set_option maxHeartbeats 3200000 in
theorem events6_any (t : List Nd) (l : List Ev) (v u : Value) (w : World) (h : RdNd w w.heap.size v t) (h' : RdEv w w.heap.size u l) :
    Calls Tryd.prog 14 #[v, u] w fun e w' => e = .returned (.bool (eventsB t l)) ∧ Kept 0 0 w w' := by
  have CO := Lib.hid (tree5_any t v w h)
  have hm := h'.len
  unfold maxLen at hm
  have HT := Lib.hid h
  have H := Lib.hid h'
  clear h
  obtain ⟨A, c, rfl, h'⟩ := h'
  clear h'
  go_enter Tryd.func14, Tryd.ntmps14
  go_wp2_with fail
  with_reducible refine CO.out.mono ?_
  rintro e w1 ⟨rfl, hk⟩
  have K1 := Lib.hid hk
  clear hk CO
  cases q1 : treeB t
  · have E : Hid (eventsB t l = false) := not_events_tree q1
    clear q1
    go_wp2
    go_ret
    exact ⟨ret_bool E.out.symm, K1.out⟩
  have OK := Lib.hid (treeB_true.1 q1)
  clear q1
  go_wp2_with fail
  go_loopw [5] (fun i wr => ∃ k : Nat, k ≤ l.length ∧ i = .int .i64 k ∧ Hid (PreE t l k) ∧ Hid (Kept 0 0 w wr)) (fun i _ => l.length - (intOf i).toNat)
  case atStart => exact ⟨0, Nat.zero_le _, rfl, Lib.hid (PreE.zero _ _), K1⟩
  case round =>
    clear K1
    obtain ⟨k, hk, rfl, HP, K⟩ := hrel
    by_cases hlt : k < l.length
    · obtain ⟨A', c', e', s'⟩ := H.out.kept (Nat.le_refl _) K.out (.inl (Nat.le_refl _))
      injection e' with e1 _ e2
      subst e1 e2
      obtain ⟨ad, rfl, _, c0, c1, c2, c3⟩ := s'.rd.ev hlt
      have HCC := Lib.hid (show l.length ≤ c ∧ c ≤ maxLen from ⟨s'.cap, s'.max⟩)
      clear s'
      have i1 : (k : Int) < (l.length : Int) := by omega
      obtain ⟨x, hx⟩ : ∃ x, x = l[k] := ⟨_, rfl⟩
      have HX := Lib.hid hx
      rw [← hx] at c0 c1 c2 c3
      clear hx
      have CE := Lib.hid (fun d os => regrown_call (event6_any t x v (grow (redrawn wr d) os) (HT.out.up (K.out.trans (Kept.regrown _ _ _)))))
      have k0 := cell_regrown c0
      have k1 := cell_regrown c1
      have k2 := cell_regrown c2
      have k3 := cell_regrown c3
      clear c0 c1 c2 c3
      have EM : Hid (mayB t (l.take k) l[k] = (evB t x && ((firstO (chainL t x.node) (l.take k)).isNone && (decide (k = 0) || decide ((evAt l (k - 1)).time ≤ x.time))))) := by
        show _ = _
        rw [← HX.out]
        unfold mayB
        rw [late_take hlt]
      have kc : k ≤ c := by have := HCC.out.1; omega
      have kc2 : (k : Int) ≤ (c : Int) := by omega
      have cm := HCC.out.2
      unfold maxLen at cm
      go_wp2_with fail
      cases q2 : evB t x
      · have E : Hid (eventsB t l = false) := not_events_at hlt (by rw [EM.out, q2, Bool.false_and])
        rw [q2] at CE
        clear q2 EM HP
        refine wp_region_quiet_below (by kernel_rfl) (by kernel_rfl) ?_
        repeat (first | go_big_quiet_step (with_reducible exact CE.out _ _) | quiet_step (with_reducible exact CE.out _ _))
        refine wpQuiet_nil ?_
        intro _ hw'
        obtain ⟨⟨dq, osq⟩, hw''⟩ := hw'
        subst hw''
        clear k0 k1 k2 k3 CE
        go_wp2
        go_ret
        exact ⟨ret_bool E.out.symm, K.out.trans (Kept.regrown _ _ _)⟩
      rw [q2, Bool.true_and] at EM
      rw [q2] at CE
      clear q2
      have CF := Lib.hid (fun d os => regrown_call (first6_any t (l.take k) x.node v (.slice (some ad) k c) (grow (redrawn wr d) os) (HT.out.up (K.out.trans (Kept.regrown _ _ _))) ((H.out.up (K.out.trans (Kept.regrown _ _ _))).take hk)))
      rcases Nat.eq_zero_or_pos k with hk0 | hk0
      · have g1 : decide (0 < k) = false := by simp; omega
        rw [decide_eq_true hk0, Bool.true_or, Bool.and_true] at EM
        have HK0 := Lib.hid hk0
        clear hk0
        rcases first_cases (chainL t x.node) (l.take k) with ⟨f1, f2⟩ | ⟨m, hm', f1, f2⟩
        · have HP2 : Hid (PreE t l (k + 1)) := HP.out.succ hlt (by rw [EM.out, f1]; rfl)
          rw [f2] at CF
          clear f1 f2 EM HP
          refine wp_region_quiet_below (by kernel_rfl) (by kernel_rfl) ?_
          repeat (first | go_big_quiet_step (first | with_reducible exact CE.out _ _ | with_reducible exact CF.out _ _) | quiet_step (first | with_reducible exact CE.out _ _ | with_reducible exact CF.out _ _))
          refine wpQuiet_nil ?_
          intro _ hw'
          obtain ⟨⟨dq, osq⟩, hw''⟩ := hw'
          subst hw''
          clear k0 k1 k2 k3 CE CF
          go_wp2
          go_roundw
          case rel => exact ⟨k + 1, by omega, by go_num, HP2, Lib.hid (K.out.trans (Kept.regrown _ _ _))⟩
          case measure => simp [intOf]; omega
        · have E : Hid (eventsB t l = false) := not_events_at hlt (by rw [EM.out, f1]; rfl)
          rw [f2] at CF
          have g5 : decide ((0 : Int) ≤ (m : Int)) = true := by simp
          clear f1 f2 EM HP hm'
          refine wp_region_quiet_below (by kernel_rfl) (by kernel_rfl) ?_
          repeat (first | go_big_quiet_step (first | with_reducible exact CE.out _ _ | with_reducible exact CF.out _ _) | quiet_step (first | with_reducible exact CE.out _ _ | with_reducible exact CF.out _ _))
          refine wpQuiet_nil ?_
          intro _ hw'
          obtain ⟨⟨dq, osq⟩, hw''⟩ := hw'
          subst hw''
          clear k0 k1 k2 k3 CE CF
          go_wp2
          go_ret
          exact ⟨ret_bool E.out.symm, K.out.trans (Kept.regrown _ _ _)⟩
      obtain ⟨j, hj1⟩ : ∃ j, k = j + 1 := ⟨k - 1, by omega⟩
      have hj : j < l.length := by omega
      have g1 : decide (0 < k) = true := by simp; omega
      have g2 : IntKind.i64.wrap ((k : Int) - 1) = (j : Int) := by
        exact (IntWalk.i64_in _ (by omega)).trans (by omega)
      have g3 : (j : Int) < (l.length : Int) := by omega
      rw [show k - 1 = j by omega, evAt_of hj, decide_eq_false (show ¬ k = 0 by omega), Bool.false_or] at EM
      obtain ⟨A', c', e', s'⟩ := H.out.kept (Nat.le_refl _) K.out (.inl (Nat.le_refl _))
      injection e' with e1 _ e2
      subst e2
      obtain ⟨ad2, e3, _, c0, c1, c2, c3⟩ := s'.rd.ev hj
      rw [← e1] at e3
      injection e3 with e3
      subst e3
      have j3 := cell_regrown c3
      have HJ := Lib.hid hj1
      clear s' c0 c1 c2 c3 hj1 hk0 e1
      by_cases hti : l[j].time ≤ x.time
      · have g4 : decide (x.time < l[j].time) = false := by simp; omega
        rw [decide_eq_true hti, Bool.and_true] at EM
        clear hti
        rcases first_cases (chainL t x.node) (l.take k) with ⟨f1, f2⟩ | ⟨m, hm', f1, f2⟩
        · have HP2 : Hid (PreE t l (k + 1)) := HP.out.succ hlt (by rw [EM.out, f1]; rfl)
          rw [f2] at CF
          clear f1 f2 EM HP
          refine wp_region_quiet_below (by kernel_rfl) (by kernel_rfl) ?_
          repeat (first | go_big_quiet_step (first | with_reducible exact CE.out _ _ | with_reducible exact CF.out _ _) | quiet_step (first | with_reducible exact CE.out _ _ | with_reducible exact CF.out _ _))
          refine wpQuiet_nil ?_
          intro _ hw'
          obtain ⟨⟨dq, osq⟩, hw''⟩ := hw'
          subst hw''
          clear k0 k1 k2 k3 j3 CE CF
          go_wp2
          go_roundw
          case rel => exact ⟨k + 1, by omega, by go_num, HP2, Lib.hid (K.out.trans (Kept.regrown _ _ _))⟩
          case measure => simp [intOf]; omega
        · have E : Hid (eventsB t l = false) := not_events_at hlt (by rw [EM.out, f1]; rfl)
          rw [f2] at CF
          have g5 : decide ((0 : Int) ≤ (m : Int)) = true := by simp
          clear f1 f2 EM HP hm'
          refine wp_region_quiet_below (by kernel_rfl) (by kernel_rfl) ?_
          repeat (first | go_big_quiet_step (first | with_reducible exact CE.out _ _ | with_reducible exact CF.out _ _) | quiet_step (first | with_reducible exact CE.out _ _ | with_reducible exact CF.out _ _))
          refine wpQuiet_nil ?_
          intro _ hw'
          obtain ⟨⟨dq, osq⟩, hw''⟩ := hw'
          subst hw''
          clear k0 k1 k2 k3 j3 CE CF
          go_wp2
          go_ret
          exact ⟨ret_bool E.out.symm, K.out.trans (Kept.regrown _ _ _)⟩
      have g4 : decide (x.time < l[j].time) = true := by simp; omega
      have E : Hid (eventsB t l = false) := not_events_at hlt (by rw [EM.out, decide_eq_false hti, Bool.and_false])
      clear hti EM HP
      refine wp_region_quiet_below (by kernel_rfl) (by kernel_rfl) ?_
      repeat (first | go_big_quiet_step (first | with_reducible exact CE.out _ _ | with_reducible exact CF.out _ _) | quiet_step (first | with_reducible exact CE.out _ _ | with_reducible exact CF.out _ _))
      refine wpQuiet_nil ?_
      intro _ hw'
      obtain ⟨⟨dq, osq⟩, hw''⟩ := hw'
      subst hw''
      clear k0 k1 k2 k3 j3 CE CF
      go_wp2
      go_ret
      exact ⟨ret_bool E.out.symm, K.out.trans (Kept.regrown _ _ _)⟩
    · have E : Hid (eventsB t l = true) := HP.out.all OK.out (by omega)
      go_wp2
      go_ret
      exact ⟨ret_bool E.out.symm, K.out⟩
end Go.Proofs.YtgahjachkeoflaaDoor
