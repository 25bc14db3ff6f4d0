/- The reference's functions of heaps: validity and rank; no condition beyond that the slices can be read. -/
import Derived.Test.YtnphjohmkjoefaaTw
import Derived.Deep.CondSized
import Derived.OwnWalk
import Derived.Deep.DeepCutAuto
namespace Go.Proofs.Ytnphjohmkjoefaa
open Go.RowKit Go.Sort

theorem l1In_any (x lo hi : Int) (w : World) :
    Calls Try.prog 39 #[.int .i64 x, .int .i64 lo, .int .i64 hi] w fun e w' => e = .returned (.bool (decide (lo ≤ x) && decide (x ≤ hi))) ∧ w = w' := by
  by_cases h1 : lo ≤ x
  · have g1 : decide (lo ≤ x) = true := by simpa using h1
    go_enter Try.func39, Try.ntmps39
    go_wp2
    go_ret
    exact ⟨by simp [h1], rfl⟩
  · have g1 : decide (lo ≤ x) = false := by simpa using h1
    go_enter Try.func39, Try.ntmps39
    go_wp2
    go_ret
    exact ⟨ret_bool (by first | rfl | (rw [g1]; rfl)), rfl⟩

set_option maxHeartbeats 400000 in
theorem ahead_any (a b : Tw) (w : World) :
    Calls Try.prog 72 #[.agg #[.int .i64 a.due, .int .i64 a.seq, .int .i64 a.lefts], .agg #[.int .i64 b.due, .int .i64 b.seq, .int .i64 b.lefts]] w fun e w' => e = .returned (.bool (aheadB a b)) ∧ Kept 0 0 w w' := by
  cases g1 : decide (a.due < b.due)
  · cases g2 : (a.due == b.due)
    · have E : Hid (aheadB a b = false) := by show _ = _; unfold aheadB; rw [g1, show decide (a.due = b.due) = false from by simpa using g2]; rfl
      go_enter Try.func72, Try.ntmps72
      go_wp2
      go_ret
      exact ⟨ret_bool E.out.symm, ((Kept.alloc0 _ _).alloc _)⟩
    · have E : Hid (aheadB a b = decide (a.seq < b.seq)) := by show _ = _; unfold aheadB; rw [g1, show decide (a.due = b.due) = true from by simpa using g2]; rfl
      go_enter Try.func72, Try.ntmps72
      go_wp2
      go_ret
      exact ⟨ret_bool E.out.symm, ((Kept.alloc0 _ _).alloc _)⟩
  · have E : Hid (aheadB a b = true) := by show _ = _; unfold aheadB; rw [g1]; rfl
    go_enter Try.func72, Try.ntmps72
    go_wp2
    go_ret
    exact ⟨ret_bool E.out.symm, ((Kept.alloc0 _ _).alloc _)⟩

/-- What l3Parts leaves. -/
def PartsEnd (B : Nat) (x : Tw) (r : List Tw) (w : World) (e : Ending) (w' : World) : Prop :=
  ∃ (A1 A2 : Option Addr) (c1 c2 : Nat), e = .returned (.tuple #[.slice A1 (r.take x.lefts.toNat).length c1, .slice A2 (r.drop x.lefts.toNat).length c2, .bool true]) ∧
    SL twR w' B A1 c1 (r.take x.lefts.toNat) ∧ SL twR w' B A2 c2 (r.drop x.lefts.toNat) ∧ Kept 0 0 w w'

theorem parts_mk {B : Nat} {x : Tw} {r : List Tw} {w w' : World} {n m c1 c2 : Nat} {A1 A2 : Option Addr} (hn : x.lefts = n) (hnl : n ≤ r.length) (hm : m = r.length - n) (s1 : SL twR w' B A1 c1 (r.take n)) (s2 : SL twR w' B A2 c2 (r.drop n)) (hk : Kept 0 0 w w') :
    PartsEnd B x r w (.returned (.tuple #[.slice A1 n c1, .slice A2 m c2, .bool true])) w' := by
  have e : x.lefts.toNat = n := by omega
  refine ⟨A1, A2, c1, c2, ?_, by rw [e]; exact s1, by rw [e]; exact s2, hk⟩
  rw [e, List.length_take, List.length_drop, Nat.min_eq_left hnl, hm]
theorem part_left {w : World} {B c c' n : Nat} {ad : Addr} {x : Tw} {r : List Tw} (h : SL twR w B (some ad) c (x :: r)) (hn : n ≤ r.length) (hc : n ≤ c') (hx : c' ≤ maxLen) : SL twR w B (some ⟨ad.block, ad.off + 3, none⟩) c' (r.take n) := by
  have := h.part (i := 1) (m := n) (by simp; omega) hc hx
  exact this
theorem part_right {w : World} {B c c' n : Nat} {ad : Addr} {x : Tw} {r : List Tw} (h : SL twR w B (some ad) c (x :: r)) (hn : n ≤ r.length) (hc : r.length - n ≤ c') (hx : c' ≤ maxLen) : SL twR w B (some (ad.add ((1 + n) * 3))) c' (r.drop n) := by
  have := h.part (i := 1 + n) (m := r.length - n) (by simp; omega) hc hx
  have e : ((x :: r).drop (1 + n)).take (r.length - n) = r.drop n := by
    rw [Nat.add_comm, List.drop_succ_cons, List.take_of_length_le (by simp)]
  rw [e] at this
  exact this

set_option maxHeartbeats 1600000 in
theorem parts_ok (x : Tw) (r : List Tw) (A : Option Addr) (c B : Nat) (w : World) (hB : B ≤ w.heap.size) (h : SL twR w B A c (x :: r)) (h0 : 0 ≤ x.lefts) (h1 : x.lefts ≤ r.length) :
    Calls Try.prog 71 #[.slice A (r.length + 1) c] w (PartsEnd B x r w) := by
  obtain ⟨ad, rfl, hb, c0, c1, c2⟩ := h.rd.head
  have hm := h.rd.1
  have hc := h.cap
  have hcm := h.max
  simp only [List.length_cons] at hm hc
  unfold maxLen at hm hcm
  have H := Lib.hid h
  clear h
  obtain ⟨n, hn⟩ := Int.eq_ofNat_of_zero_le h0
  have HN := Lib.hid hn
  rw [hn] at c2
  have hnl : n ≤ r.length := by omega
  clear hn h0 h1
  have gi : (decide ((0 : Int) ≤ (n : Int)) && decide ((n : Int) ≤ (r.length : Int))) = true := by simp; omega
  have GI := Lib.hid gi
  clear gi
  go_enter Try.func71, Try.ntmps71
  go_wp2_with fail
  with_reducible refine (l1In_any _ _ _ _).mono ?_
  rintro e w' ⟨rfl, rfl⟩
  rw [GI.out]
  clear c0 c1 c2
  have w1 : IntKind.i64.wrap (1 + (n : Int)) = 1 + n := IntWalk.i64_in _ (by omega)
  have p0 : (0 : Int) ≤ 1 + (n : Int) := by omega
  have p1 : (1 + (n : Int)) ≤ (r.length : Int) + 1 := by omega
  have p1' : (1 : Int) ≤ 1 + (n : Int) := by omega
  have p2 : (r.length : Int) + 1 ≤ (c : Int) := by omega
  have p2' : (1 + (n : Int)) ≤ (c : Int) := by omega
  have p3 : (1 + (n : Int)).toNat = 1 + n := by omega
  go_wp2_with fail
  go_quiet (fail)
  all_goals go_wp2
  all_goals go_ret3
  · have e0 : n = 0 := by omega
    subst e0
    have er : r = [] := List.eq_nil_of_length_eq_zero (by omega)
    subst er
    exact parts_mk HN.out (Nat.le_refl _) (by simp) (SL.none _ _ _ _ (by unfold maxLen; omega)) (SL.none _ _ _ _ (by unfold maxLen; omega)) ((Kept.refl _ _ _).drewN _)
  · have er : r.length = n := by omega
    exact parts_mk HN.out hnl (by omega) (part_left (H.out.kept hB ((Kept.refl 0 0 w).drewN _) (.inl (Nat.le_refl _))) hnl (Nat.le_refl _) (by unfold maxLen; omega)) (by rw [List.drop_of_length_le (by omega)]; exact SL.none _ _ _ _ (by unfold maxLen; omega)) ((Kept.refl _ _ _).drewN _)
  · have k0 : Kept 0 0 w (w.drewN nq) := (Kept.refl _ _ _).drewN _
    exact parts_mk HN.out hnl (by omega) (part_left (H.out.kept hB k0 (.inl (Nat.le_refl _))) hnl (by omega) (by unfold maxLen; omega)) (part_right (H.out.kept hB k0 (.inl (Nat.le_refl _))) hnl (by omega) (by unfold maxLen; omega)) k0

set_option maxHeartbeats 800000 in
theorem parts_bad (x : Tw) (r : List Tw) (A : Option Addr) (c B : Nat) (w : World) (h : SL twR w B A c (x :: r)) (h0 : ¬ (0 ≤ x.lefts ∧ x.lefts ≤ r.length)) :
    Calls Try.prog 71 #[.slice A (r.length + 1) c] w fun e w' => ∃ A1 A2, e = .returned (.tuple #[.slice A1 0 0, .slice A2 0 0, .bool false]) ∧ Kept 0 0 w w' := by
  obtain ⟨ad, rfl, hb, c0, c1, c2⟩ := h.rd.head
  have hm := h.rd.1
  simp only [List.length_cons] at hm
  unfold maxLen at hm
  clear h
  have GI : Hid ((decide ((0 : Int) ≤ x.lefts) && decide (x.lefts ≤ (r.length : Int))) = false) := by show _ = _; simp; omega
  clear h0
  go_enter Try.func71, Try.ntmps71
  go_wp2_with fail
  with_reducible refine (l1In_any _ _ _ _).mono ?_
  rintro e w' ⟨rfl, rfl⟩
  rw [GI.out]
  clear c0 c1 c2
  go_wp2
  go_ret3
  exact ⟨_, _, rfl, ((Kept.alloc0 _ _).alloc _)⟩

theorem rank_bounds (n : Nat) : ∀ h : List Tw, h.length ≤ n → rankL h ≤ h.length := by
  induction n with
  | zero =>
    intro h hn
    have : h = [] := List.eq_nil_of_length_eq_zero (by omega)
    subst this
    rw [rankL_nil]; simp
  | succ n ih =>
    intro h hn
    match h, hn with
    | [], _ => rw [rankL_nil]; simp
    | x :: r, hn =>
      rw [rankL_cons]
      simp only [List.length_cons] at hn ⊢
      have := ih (r.drop x.lefts.toNat) (by simp; omega)
      simp only [List.length_drop] at this
      split
      · split
        · split <;> omega
        · omega
      · omega

/-- The reference's rank at all lists of at most n elements. -/
def RankDoes (n : Nat) : Prop := ∀ (xs : List Tw) (A : Option Addr) (c B : Nat) (w : World), xs.length ≤ n → B ≤ w.heap.size → SL twR w B A c xs →
  Calls Try.prog 57 #[.slice A xs.length c] w fun e w' => e = .returned (.int .i64 (rankL xs)) ∧ Kept 0 0 w w'
theorem RankDoes.at_ {n : Nat} (h : RankDoes n) (xs : List Tw) (A : Option Addr) (c B : Nat) (w : World) (hn : xs.length ≤ n) (hB : B ≤ w.heap.size) (hs : SL twR w B A c xs) :
    Calls Try.prog 57 #[.slice A xs.length c] w fun e w' => e = .returned (.int .i64 (rankL xs)) ∧ Kept 0 0 w w' := h xs A c B w hn hB hs

set_option maxHeartbeats 16000000 in
theorem rank_does (n : Nat) : RankDoes n := by
  induction n with
  | zero =>
    intro xs A c B w hn hB hs
    have : xs = [] := List.eq_nil_of_length_eq_zero (by omega)
    subst this
    clear hs
    have E : Hid (rankL [] = 0) := rankL_nil
    go_enter Try.func57, Try.ntmps57
    go_wp2
    go_ret
    exact ⟨ret_int E.out.symm, Kept.refl _ _ _⟩
  | succ n ih =>
    intro xs A c B w hn hB hs
    match xs, hn, hs with
    | [], hn, hs =>
      clear hs
      have E : Hid (rankL [] = 0) := rankL_nil
      go_enter Try.func57, Try.ntmps57
      go_wp2
      go_ret
      exact ⟨ret_int E.out.symm, Kept.refl _ _ _⟩
    | x :: r, hn, hs =>
      have hm := hs.rd.1
      simp only [List.length_cons] at hm hn
      unfold maxLen at hm
      have hz : (((r.length : Int) + 1) == 0) = false := by simp; omega
      have H := Lib.hid hs
      have IH := Lib.hid ih
      clear hs ih
      show Calls Try.prog 57 #[.slice A (r.length + 1) c] w _
      by_cases hp : 0 ≤ x.lefts ∧ x.lefts ≤ r.length
      · obtain ⟨hp1, hp2⟩ := hp
        have ER := Lib.hid (rankL_cons x r)
        rw [if_pos ⟨hp1, hp2⟩] at ER
        go_enter Try.func57, Try.ntmps57
        go_wp2_with fail
        with_reducible refine (parts_ok x r _ _ B _ hB H.out hp1 hp2).mono ?_
        rintro e w1 ⟨A1, A2, c1, c2, rfl, s1, s2, hk⟩
        have l1 : (r.take x.lefts.toNat).length ≤ n := by simp; omega
        have l2 : (r.drop x.lefts.toNat).length ≤ n := by simp; omega
        have l3 : (r.drop x.lefts.toNat).length ≤ r.length := by simp
        generalize r.take x.lefts.toNat = l at s1 ER l1
        generalize r.drop x.lefts.toNat = q at s2 ER l2 l3
        have S1 := Lib.hid s1
        have S2 := Lib.hid s2
        have HK := Lib.hid hk
        have zB : B ≤ w1.heap.size := Nat.le_trans hB hk.size
        obtain ⟨ad, rfl, _, c0, c1', c2'⟩ := H.out.rd.head
        have k0 := cell_regrown (cell_kept hk c0)
        have k1 := cell_regrown (cell_kept hk c1')
        have k2 := cell_regrown (cell_kept hk c2')
        clear s1 s2 hk c0 c1' c2'
        have m1 := S1.out.max
        have m2 := S2.out.max
        have m3 := S1.out.cap
        have m4 := S2.out.cap
        unfold maxLen at m1 m2
        obtain ⟨n1, hn1⟩ : ∃ n1, n1 = l.length := ⟨_, rfl⟩
        obtain ⟨n2, hn2⟩ : ∃ n2, n2 = q.length := ⟨_, rfl⟩
        rw [← hn1, ← hn2]
        rw [← hn1] at m3
        rw [← hn2] at m4
        have HN1 := Lib.hid hn1
        have HN2 := Lib.hid hn2
        clear hn1 hn2
        obtain ⟨bd, hbd⟩ : ∃ bd, bd = (headOk x l && headOk x q) := ⟨_, rfl⟩
        have HBD := Lib.hid hbd
        clear hbd
        go_upto_region 4 with fail
        go_cut [48] (fun p wx => p = .bool (!bd) ∧ Hid (Kept 0 0 w1 wx))
        case first =>
          cases l with
          | nil =>
            have g1 : decide (0 < n1) = false := by have := HN1.out; simp at this; simp; omega
            cases q with
            | nil =>
              have g2 : decide (0 < n2) = false := by have := HN2.out; simp at this; simp; omega
              have eb : bd = true := HBD.out
              subst eb
              refine wp_region_quiet_below (by kernel_rfl) (by kernel_rfl) ?_
              repeat (first | go_big_quiet_step (fail) | quiet_step (fail))
              refine wpQuiet_nil ?_
              intro _ hw'
              obtain ⟨⟨dq, osq⟩, hw''⟩ := hw'
              subst hw''
              go_wp2_with fail
              go_meet
              exact ⟨rfl, Lib.hid (Kept.regrown _ _ _)⟩
            | cons z q =>
              have g2 : decide (0 < n2) = true := by have := HN2.out; simp at this; simp; omega
              have g2' : 0 < n2 := by simpa using g2
              obtain ⟨ad2, rfl, _, d0, d1, d2⟩ := S2.out.rd.head
              have j0 := cell_regrown d0
              have j1 := cell_regrown d1
              have j2 := cell_regrown d2
              clear d0 d1 d2
              have CP := Lib.hid (fun d os => regrown_call (ahead_any x z (grow (redrawn w1 d) os)))
              cases hb : aheadB x z
              · rw [hb] at CP
                have eb : bd = false := by rw [HBD.out]; simp [headOk, hb]
                subst eb
                clear hb
                refine wp_region_quiet_below (by kernel_rfl) (by kernel_rfl) ?_
                repeat (first | go_big_quiet_step (with_reducible exact CP.out _ _) | quiet_step (with_reducible exact CP.out _ _))
                refine wpQuiet_nil ?_
                intro _ hw'
                obtain ⟨⟨dq, osq⟩, hw''⟩ := hw'
                subst hw''
                go_wp2_with fail
                go_meet
                exact ⟨rfl, Lib.hid (Kept.regrown _ _ _)⟩
              · rw [hb] at CP
                have eb : bd = true := by rw [HBD.out]; simp [headOk, hb]
                subst eb
                clear hb
                refine wp_region_quiet_below (by kernel_rfl) (by kernel_rfl) ?_
                repeat (first | go_big_quiet_step (with_reducible exact CP.out _ _) | quiet_step (with_reducible exact CP.out _ _))
                refine wpQuiet_nil ?_
                intro _ hw'
                obtain ⟨⟨dq, osq⟩, hw''⟩ := hw'
                subst hw''
                go_wp2_with fail
                go_meet
                exact ⟨rfl, Lib.hid (Kept.regrown _ _ _)⟩
          | cons y l =>
            have g1 : decide (0 < n1) = true := by have := HN1.out; simp at this; simp; omega
            have g1' : 0 < n1 := by simpa using g1
            obtain ⟨ad1, rfl, _, d0, d1, d2⟩ := S1.out.rd.head
            have i0 := cell_regrown d0
            have i1 := cell_regrown d1
            have i2 := cell_regrown d2
            clear d0 d1 d2
            have CO := Lib.hid (fun d os => regrown_call (ahead_any x y (grow (redrawn w1 d) os)))
            cases ha : aheadB x y
            · rw [ha] at CO
              have eb : bd = false := by rw [HBD.out]; simp [headOk, ha]
              subst eb
              clear ha
              refine wp_region_quiet_below (by kernel_rfl) (by kernel_rfl) ?_
              repeat (first | go_big_quiet_step (with_reducible exact CO.out _ _) | quiet_step (with_reducible exact CO.out _ _))
              refine wpQuiet_nil ?_
              intro _ hw'
              obtain ⟨⟨dq, osq⟩, hw''⟩ := hw'
              subst hw''
              go_wp2_with fail
              go_meet
              exact ⟨rfl, Lib.hid (Kept.regrown _ _ _)⟩
            · rw [ha] at CO
              cases q with
              | nil =>
                have g2 : decide (0 < n2) = false := by have := HN2.out; simp at this; simp; omega
                have eb : bd = true := by rw [HBD.out]; simp [headOk, ha]
                subst eb
                clear ha
                refine wp_region_quiet_below (by kernel_rfl) (by kernel_rfl) ?_
                repeat (first | go_big_quiet_step (with_reducible exact CO.out _ _) | quiet_step (with_reducible exact CO.out _ _))
                refine wpQuiet_nil ?_
                intro _ hw'
                obtain ⟨⟨dq, osq⟩, hw''⟩ := hw'
                subst hw''
                go_wp2_with fail
                go_meet
                exact ⟨rfl, Lib.hid (Kept.regrown _ _ _)⟩
              | cons z q =>
                have g2 : decide (0 < n2) = true := by have := HN2.out; simp at this; simp; omega
                have g2' : 0 < n2 := by simpa using g2
                obtain ⟨ad2, rfl, _, d0, d1, d2⟩ := S2.out.rd.head
                have j0 := cell_regrown d0
                have j1 := cell_regrown d1
                have j2 := cell_regrown d2
                clear d0 d1 d2
                have CP := Lib.hid (fun d os => regrown_call (ahead_any x z (grow (redrawn w1 d) os)))
                cases hb : aheadB x z
                · rw [hb] at CP
                  have eb : bd = false := by rw [HBD.out]; simp [headOk, ha, hb]
                  subst eb
                  clear hb
                  refine wp_region_quiet_below (by kernel_rfl) (by kernel_rfl) ?_
                  repeat (first | go_big_quiet_step (first | with_reducible exact CO.out _ _ | with_reducible exact CP.out _ _) | quiet_step (first | with_reducible exact CO.out _ _ | with_reducible exact CP.out _ _))
                  refine wpQuiet_nil ?_
                  intro _ hw'
                  obtain ⟨⟨dq, osq⟩, hw''⟩ := hw'
                  subst hw''
                  go_wp2_with fail
                  go_meet
                  exact ⟨rfl, Lib.hid (Kept.regrown _ _ _)⟩
                · rw [hb] at CP
                  have eb : bd = true := by rw [HBD.out]; simp [headOk, ha, hb]
                  subst eb
                  clear hb
                  refine wp_region_quiet_below (by kernel_rfl) (by kernel_rfl) ?_
                  repeat (first | go_big_quiet_step (first | with_reducible exact CO.out _ _ | with_reducible exact CP.out _ _) | quiet_step (first | with_reducible exact CO.out _ _ | with_reducible exact CP.out _ _))
                  refine wpQuiet_nil ?_
                  intro _ hw'
                  obtain ⟨⟨dq, osq⟩, hw''⟩ := hw'
                  subst hw''
                  go_wp2_with fail
                  go_meet
                  exact ⟨rfl, Lib.hid (Kept.regrown _ _ _)⟩
        case rest =>
          obtain ⟨rfl, KC⟩ := hcut
          clear k0 k1 k2
          rw [← HBD.out] at ER
          rw [HN1.out, HN2.out]
          clear HBD m3 m4
          cases bd
          · have E : Hid (rankL (x :: r) = -1) := by show _ = _; rw [ER.out]; rfl
            go_wp2
            go_ret
            exact ⟨ret_int E.out.symm, HK.out.trans KC.out⟩
          · rw [if_pos rfl] at ER
            have b1 := rankL_ge l
            have b2 := rankL_ge q
            have b3 := rank_bounds _ l (Nat.le_refl _)
            have b4 := rank_bounds _ q (Nat.le_refl _)
            go_wp2_with fail
            with_reducible refine (IH.out.at_ l _ _ B _ l1 (by have := KC.out.size; omega) (S1.out.kept zB KC.out (.inl (Nat.le_refl _)))).mono ?_
            rintro e w2 ⟨rfl, hk⟩
            have K2 := Lib.hid (KC.out.trans hk)
            clear hk
            go_wp2_with fail
            with_reducible refine (IH.out.at_ q _ _ B _ l2 (by have := K2.out.size; omega) (S2.out.kept zB K2.out (.inl (Nat.le_refl _)))).mono ?_
            rintro e w3 ⟨rfl, hk⟩
            have K3 := Lib.hid (HK.out.trans (K2.out.trans hk))
            clear hk KC K2
            generalize rankL l = a at ER b1 b3
            generalize rankL q = b at ER b2 b4
            by_cases h1 : a < 0
            · have E : Hid (rankL (x :: r) = -1) := by show _ = _; rw [ER.out, if_pos (.inl h1)]
              have g1 : decide (a < 0) = true := by simpa using h1
              go_wp2
              go_ret
              exact ⟨ret_int E.out.symm, K3.out⟩
            · have g1 : decide (a < 0) = false := by simpa using h1
              by_cases h2 : b < 0
              · have E : Hid (rankL (x :: r) = -1) := by show _ = _; rw [ER.out, if_pos (.inr (.inl h2))]
                have g2 : decide (b < 0) = true := by simpa using h2
                go_wp2
                go_ret
                exact ⟨ret_int E.out.symm, K3.out⟩
              · have g2 : decide (b < 0) = false := by simpa using h2
                by_cases h3 : a < b
                · have E : Hid (rankL (x :: r) = -1) := by show _ = _; rw [ER.out, if_pos (.inr (.inr h3))]
                  have g3 : decide (a < b) = true := by simpa using h3
                  go_wp2
                  go_ret
                  exact ⟨ret_int E.out.symm, K3.out⟩
                · have E : Hid (rankL (x :: r) = b + 1) := by show _ = _; rw [ER.out, if_neg (by omega)]
                  have g3 : decide (a < b) = false := by simpa using h3
                  go_wp2
                  go_ret
                  exact ⟨ret_int E.out.symm, K3.out⟩
      · have E : Hid (rankL (x :: r) = -1) := by show _ = _; rw [rankL_cons, if_neg hp]
        have HP := Lib.hid hp
        clear hp
        go_enter Try.func57, Try.ntmps57
        go_wp2_with fail
        with_reducible refine (parts_bad x r _ _ B _ H.out HP.out).mono ?_
        rintro e w1 ⟨A1, A2, rfl, hk⟩
        have HK := Lib.hid hk
        clear hk
        go_wp2_with fail
        refine wp_region_quiet_below (by kernel_rfl) (by kernel_rfl) ?_
        repeat (first | go_big_quiet_step (fail) | quiet_step (fail))
        refine wpQuiet_nil ?_
        intro _ hw'
        obtain ⟨⟨dq, osq⟩, hw''⟩ := hw'
        subst hw''
        go_wp2
        go_ret
        exact ⟨ret_int E.out.symm, HK.out.trans (Kept.regrown _ _ _)⟩
end Go.Proofs.Ytnphjohmkjoefaa
