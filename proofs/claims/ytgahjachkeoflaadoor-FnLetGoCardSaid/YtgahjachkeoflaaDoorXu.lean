/- The program's tests of events: a number in a slice (the library's Contains), whether an event is one of a tree, its reason, the end of a node among some events; conditions: the slices can be read, the tree is valid, the two sentinels lie where the program laid them. -/
import Derived.Test.YtgahjachkeoflaaDoorOb
import Derived.Test.YtgahjachkeoflaaDoorXr
import Derived.Test.YtgahjachkeoflaaDoorXs
namespace Go.Proofs.YtgahjachkeoflaaDoor
open Go.RowKit Go.Sort

theorem dueP_any (now a : Int) (w : World) : Calls Tryd.prog 89 #[.int .i64 now, .int .i64 a] w fun e w' => e = .returned (.bool (dueB now a)) ∧ w = w' := by
  have E : Hid (dueB now a = (decide (a ≤ now) && decide (a ≠ 9223372036854775807))) := by show _ = _; rfl
  by_cases h : a ≤ now
  · have g : decide (a ≤ now) = true := by simpa using h
    by_cases h2 : a = 9223372036854775807
    · have g2 : (a != 9223372036854775807) = false := by simp [h2]
      have E2 : Hid (dueB now a = false) := by show _ = _; rw [E.out]; simp [h2]
      clear h2
      go_enter Tryd.func89, Tryd.ntmps89
      go_wp2
      go_ret
      exact ⟨ret_bool E2.out.symm, rfl⟩
    · have g2 : (a != 9223372036854775807) = true := by simpa using h2
      have E2 : Hid (dueB now a = true) := by show _ = _; rw [E.out]; simp [h2, h]
      clear h2
      go_enter Tryd.func89, Tryd.ntmps89
      go_wp2
      go_ret
      exact ⟨ret_bool E2.out.symm, rfl⟩
  · have g : decide (a ≤ now) = false := by simpa using h
    have E2 : Hid (dueB now a = false) := by show _ = _; rw [E.out]; simp [h]
    go_enter Tryd.func89, Tryd.ntmps89
    go_wp2
    go_ret
    exact ⟨ret_bool E2.out.symm, rfl⟩

set_option maxHeartbeats 1600000 in
theorem index_any (xs : List Int) (x : Int) (v : Value) (w : World) (h : RdI w w.heap.size v xs) :
    Calls Tryd.prog 94 #[v, .int .i64 x] w fun e w' => ∃ q : Int, e = .returned (.int .i64 q) ∧ (0 ≤ q ↔ x ∈ xs) ∧ w = w' := by
  obtain ⟨A, c, rfl, h⟩ := h
  have hl := h.rd.1
  unfold maxLen at hl
  have H := Lib.hid h.rd
  clear h
  go_enter Tryd.func94, Tryd.ntmps94
  go_wp2_with fail
  go_loop [8] (fun i => ∃ k : Nat, k ≤ xs.length ∧ i = .int .i64 k ∧ Hid (∀ i (h : i < xs.length), i < k → xs[i] ≠ x)) (fun i => xs.length - (intOf i).toNat)
  case atStart => exact ⟨0, Nat.zero_le _, rfl, Lib.hid (fun i _ h => by omega)⟩
  case round =>
    obtain ⟨k, hk, rfl, HN⟩ := hrel
    by_cases hlt : k < xs.length
    · obtain ⟨ad, rfl, _, c0⟩ := H.out.i hlt
      have i1 : (k : Int) < (xs.length : Int) := by omega
      by_cases he : xs[k] = x
      · have E : Hid (0 ≤ (k : Int) ↔ x ∈ xs) := by show _ ↔ _; rw [← he]; simp
        rw [he] at c0
        clear he
        go_wp2
        go_ret
        exact ⟨k, rfl, E.out, rfl⟩
      · have he' : (x == xs[k]) = false := by simpa using fun e : x = xs[k] => he e.symm
        have HN2 : Hid (∀ i (h : i < xs.length), i < k + 1 → xs[i] ≠ x) := fun i hi hik => by
          rcases Nat.lt_or_ge i k with h' | h'
          · exact HN.out i hi h'
          · obtain rfl : i = k := by omega
            exact he
        clear he
        go_wp2
        go_round
        case rel => exact ⟨k + 1, by omega, by go_num, HN2⟩
        case measure => simp [intOf]; omega
    · have E : Hid (0 ≤ (-1 : Int) ↔ x ∈ xs) := by
        show _ ↔ _
        have : x ∉ xs := by
          intro hx
          obtain ⟨i, hi, he⟩ := List.getElem_of_mem hx
          exact HN.out i hi (by omega) he
        simp [this]
      go_wp2
      go_ret
      exact ⟨-1, rfl, E.out, rfl⟩
theorem contains_any (xs : List Int) (x : Int) (v : Value) (w : World) (h : RdI w w.heap.size v xs) :
    Calls Tryd.prog 77 #[v, .int .i64 x] w fun e w' => e = .returned (.bool (decide (x ∈ xs))) ∧ w = w' := by
  have CO := Lib.hid (index_any xs x v w h)
  clear h
  go_enter Tryd.func77, Tryd.ntmps77
  go_wp2_with fail
  with_reducible refine CO.out.mono ?_
  rintro e w' ⟨q, rfl, hq, rfl⟩
  have E : Hid (decide (0 ≤ q) = decide (x ∈ xs)) := decide_eq_decide.2 hq
  clear hq CO
  go_wp2
  go_ret
  exact ⟨ret_bool E.out, rfl⟩

theorem reason_any (e : Ev) (a0 a1 : Addr) (w : World) (hs : Sen w a0 a1) :
    Calls Tryd.prog 78 #[.agg #[.int .i64 e.node, .int .i64 e.err, .int .i64 e.cause, .int .i64 e.time]] w fun e' w' => e' = .returned (.iface 141 (.pointer (some (senAt a0 a1 (decide (e.err = 2)))))) ∧ Kept 0 0 w w' := by
  have k := Kept.alloc0 w (.cells #[.int .i64 e.node, .int .i64 e.err, .int .i64 e.cause, .int .i64 e.time] 27)
  have v0 := cell_kept k hs.v0
  have v1 := cell_kept k hs.v1
  have KW := Lib.hid k
  clear k hs
  by_cases h : e.err = 2
  · have E : Hid (senAt a0 a1 (decide (e.err = 2)) = a1) := by show _ = _; simp [h, senAt]
    have g : (e.err == 2) = true := by simpa using h
    clear h
    go_enter Tryd.func78, Tryd.ntmps78
    go_wp2
    go_ret
    exact ⟨by rw [E.out]; rfl, KW.out⟩
  · have E : Hid (senAt a0 a1 (decide (e.err = 2)) = a0) := by show _ = _; simp [h, senAt]
    have g : (e.err == 2) = false := by simpa using h
    clear h
    go_enter Tryd.func78, Tryd.ntmps78
    go_wp2
    go_ret
    exact ⟨by rw [E.out]; rfl, KW.out⟩

/-- The end of a node, as a value. -/
def endV (a0 a1 : Addr) : Option Ev → Value
  | none => .nilIface
  | some e => doneV e.node e.err e.cause e.time (senAt a0 a1 (decide (e.err = 2)))

set_option maxHeartbeats 1600000 in
theorem endAmong_any (t : List Nd) (l : List Ev) (n : Int) (v u : Value) (a0 a1 : Addr) (w : World) (hs : Sen w a0 a1) (h : RdNd w w.heap.size v t) (h' : RdEv w w.heap.size u l) :
    Calls Tryd.prog 56 #[v, u, .int .i64 n] w fun e w' => e = .returned (endV a0 a1 (firstO (chainL t n) l)) ∧ Kept 0 0 w w' := by
  have CO := Lib.hid (implChain t n v w h)
  have hm := h'.len
  unfold maxLen at hm
  have H := Lib.hid h'
  have HS := Lib.hid hs
  clear h hs
  obtain ⟨A, c, rfl, h'⟩ := h'
  clear h'
  obtain ⟨q, hq⟩ : ∃ q, q = chainL t n := ⟨_, rfl⟩
  rw [← hq] at CO ⊢
  clear hq
  go_enter Tryd.func56, Tryd.ntmps56
  go_wp2_with fail
  with_reducible refine CO.out.mono ?_
  rintro e w1 ⟨z, rfl, ho, hk⟩
  have K1 := Lib.hid hk
  have S1 := Lib.hid (ho.rdW (Nat.le_refl _))
  clear hk ho CO
  go_wp2_with fail
  go_loopw [15] (fun i wr => ∃ k : Nat, k ≤ l.length ∧ i = .int .i64 k ∧ Hid (NoHit q l k) ∧ Hid (Kept 0 0 w wr) ∧ Hid (Kept 0 0 w1 wr)) (fun i _ => l.length - (intOf i).toNat)
  case atStart => exact ⟨0, Nat.zero_le _, rfl, Lib.hid (NoHit.zero _ _), K1, Lib.hid (Kept.refl _ _ _)⟩
  case round =>
    clear K1
    obtain ⟨k, hk, rfl, HN, K, K'⟩ := hrel
    by_cases hlt : k < l.length
    · obtain ⟨A', c', e', s'⟩ := H.out.kept (Nat.le_refl _) K.out (.inl (Nat.le_refl _))
      injection e' with e1 _ e2
      subst e1 e2
      obtain ⟨ad, rfl, _, c0, c1, c2, c3⟩ := s'.rd.ev hlt
      clear s'
      have i1 : (k : Int) < (l.length : Int) := by omega
      obtain ⟨x, hx⟩ : ∃ x, x = l[k] := ⟨_, rfl⟩
      have HX := Lib.hid hx
      rw [← hx] at c0 c1 c2 c3
      clear hx
      obtain ⟨W, hW⟩ : ∃ W, W = wr.alloc (.cells #[.int .i64 x.node, .int .i64 x.err, .int .i64 x.cause, .int .i64 x.time] 27) := ⟨_, rfl⟩
      have KW : Hid (Kept 0 0 w W) := by show Kept _ _ _ _; rw [hW]; exact K.out.alloc _
      have KW' : Hid (Kept 0 0 w1 W) := by show Kept _ _ _ _; rw [hW]; exact K'.out.alloc _
      have B0 : Hid (Blk W wr.heap.size 27 #[.int .i64 x.node, .int .i64 x.err, .int .i64 x.cause, .int .i64 x.time]) := by show Blk _ _ _ _; rw [hW]; exact Blk.new _ _ _
      have HW := Lib.hid hW
      clear hW K K'
      have CI := Lib.hid (contains_any q x.node z W (S1.out.up KW'.out))
      go_wp2_with fail
      rw [← HW.out]
      with_reducible refine CI.out.mono ?_
      rintro e w2 ⟨rfl, rfl⟩
      have b0 := B0.out.cell 0
      have b1 := B0.out.cell 1
      have b2 := B0.out.cell 2
      have b3 := B0.out.cell 3
      clear CI c0 c1 c2 c3 HW
      by_cases hx : x.node ∈ q
      · have E : Hid (firstO q l = some x) := by show _ = _; rw [(HN.out.some hlt (by rw [← HX.out]; exact hx)).1, HX.out]
        have g : decide (x.node ∈ q) = true := by simpa using hx
        clear hx
        have CR := Lib.hid (fun d os => regrown_call (reason_any x a0 a1 (grow (redrawn W d) os) (HS.out.kept (KW.out.trans (Kept.regrown _ _ _)))))
        have k0 := cell_regrown b0
        have k1 := cell_regrown b1
        have k2 := cell_regrown b2
        have k3 := cell_regrown b3
        clear b0 b1 b2 b3
        go_wp2_with fail
        refine wp_region_quiet_below (by kernel_rfl) (by kernel_rfl) ?_
        repeat (first | go_big_quiet_step (with_reducible exact CR.out _ _) | quiet_step (with_reducible exact CR.out _ _))
        refine wpQuiet_nil ?_
        intro _ hw'
        obtain ⟨⟨dq, osq⟩, hw''⟩ := hw'
        subst hw''
        clear k0 k1 k2 k3 CR
        go_wp2
        go_ret
        exact ⟨by rw [E.out]; rfl, KW.out.trans (Kept.regrown _ _ _)⟩
      · have HN2 := Lib.hid (HN.out.succ hlt (by rw [← HX.out]; exact hx))
        have g : decide (x.node ∈ q) = false := by simpa using hx
        clear hx
        go_wp2
        go_roundw
        case rel => exact ⟨k + 1, by omega, by go_num, HN2, KW, KW'⟩
        case measure => simp [intOf]; omega
    · have E : Hid (firstO q l = none) := (HN.out.none (by omega)).1
      go_wp2
      go_ret
      exact ⟨by rw [E.out]; rfl, K.out⟩
end Go.Proofs.YtgahjachkeoflaaDoor
