/- FnLetGo on paper: a list with one event more, and the law's tests whether a number lies in a slice and whether two lists of events are alike; no condition beyond what each theorem states. -/
import Derived.Test.YtgahjachkeoflaaDoorXr
namespace Go.Proofs.YtgahjachkeoflaaDoor
open Go.RowKit Go.Sort

theorem first_snoc (c : List Int) (l : List Ev) (x : Ev) : firstO c (l ++ [x]) = (firstO c l).or (if x.node ∈ c then some x else none) := by
  unfold firstO
  rw [List.find?_append]
  congr 1
  by_cases h : x.node ∈ c <;> simp [hitB, h]
/-- What one event more changes: behind it a node is done if it was, by the same event, or if the new event is of its chain, by that. -/
theorem fst_snoc {t : List Nd} {l : List Ev} {x : Ev} (h : eventsB t l = true) (hm : mayB t l x = true) (n : Int) : fstO t (l ++ [x]) n = (fstO t l n).or (if x.node ∈ chainL t n then some x else none) := by
  have h2 : eventsB t (l ++ [x]) = true := by rw [events_snoc, h, hm]; rfl
  unfold fstO
  rw [if_pos h2, if_pos h, first_snoc]
theorem not_twice {t : List Nd} {l : List Ev} {x : Ev} (h : eventsB t l = true) (hm : mayB t l x = true) : mayB t (l ++ [x]) x = false := by
  have hb := evB_node (mayB_ev hm)
  have hmem := mem_chainL (eventsB_true.1 h).1 hb.1 hb.2
  have h1 : firstO (chainL t x.node) (l ++ [x]) = some x := by rw [first_snoc, if_pos hmem, mayB_none hm]; rfl
  simp [mayB, h1]
theorem mem_done {t : List Nd} {l : List Ev} (h : eventsB t l = true) {n : Nat} (hn : n < t.length) : ((n : Int) ∈ doneL t l) ↔ fstB t l n = true := by
  have : fstO t l n = firstO (chainL t n) l := by unfold fstO; rw [if_pos h]
  rw [doneL, if_pos h, doneTo, List.mem_map, fstB, this]
  constructor
  · rintro ⟨m, hm, e⟩
    obtain rfl : m = n := by omega
    exact (List.mem_filter.1 hm).2
  · intro hh
    exact ⟨n, List.mem_filter.2 ⟨List.mem_range.2 hn, hh⟩, rfl⟩

set_option maxHeartbeats 800000 in
theorem hasL_any (xs : List Int) (x : Int) (v : Value) (w : World) (h : RdI w w.heap.size v xs) :
    Calls Tryd.prog 17 #[v, .int .i64 x] w fun e w' => e = .returned (.bool (decide (x ∈ xs))) ∧ Kept 0 0 w w' := by
  obtain ⟨A, c, rfl, h⟩ := h
  have hl := h.rd.1
  unfold maxLen at hl
  have H := Lib.hid h.rd
  clear h
  go_enter Tryd.func17, Tryd.ntmps17
  go_wp2
  go_loopw [5] (fun i wr => ∃ k : Nat, k ≤ xs.length ∧ i = .int .i64 k ∧ Hid (∀ i (h : i < xs.length), i < k → xs[i] ≠ x) ∧ Hid (Kept 0 0 w wr)) (fun i _ => xs.length - (intOf i).toNat)
  case atStart => exact ⟨0, Nat.zero_le _, rfl, Lib.hid (fun i _ h => by omega), Lib.hid (Kept.refl _ _ _)⟩
  case round =>
    obtain ⟨k, hk, rfl, HN, HK⟩ := hrel
    by_cases hlt : k < xs.length
    · obtain ⟨ad, rfl, _, c0⟩ := (H.out.kept (Nat.le_refl _) HK.out (.inl (Nat.le_refl _))).i hlt
      have i1 : (k : Int) < (xs.length : Int) := by omega
      by_cases he : xs[k] = x
      · have E : Hid (decide (x ∈ xs) = true) := by show _ = _; rw [← he]; simp
        rw [he] at c0
        clear he
        go_wp2
        go_ret
        exact ⟨ret_bool E.out.symm, HK.out⟩
      · have he' : (xs[k] == x) = false := by simpa using he
        have HN2 : Hid (∀ i (h : i < xs.length), i < k + 1 → xs[i] ≠ x) := fun i hi hik => by
          rcases Nat.lt_or_ge i k with h' | h'
          · exact HN.out i hi h'
          · obtain rfl : i = k := by omega
            exact he
        clear he
        go_wp2
        go_roundw
        case rel => exact ⟨k + 1, by omega, by go_num, HN2, HK⟩
        case measure => simp [intOf]; omega
    · have E : Hid (decide (x ∈ xs) = false) := by
        show _ = _
        rw [decide_eq_false_iff_not]
        intro hx
        obtain ⟨i, hi, he⟩ := List.getElem_of_mem hx
        exact HN.out i hi (by omega) he
      go_wp2
      go_ret
      exact ⟨ret_bool E.out.symm, HK.out⟩

set_option maxHeartbeats 1600000 in
theorem like_true (l : List Ev) (v u : Value) (w : World) (h : RdEv w w.heap.size v l) (h' : RdEv w w.heap.size u l) :
    Calls Tryd.prog 15 #[v, u] w fun e w' => e = .returned (.bool true) ∧ Kept 0 0 w w' := by
  obtain ⟨A, c, rfl, h⟩ := h
  obtain ⟨A', c', rfl, h'⟩ := h'
  have hl := h.rd.1
  unfold maxLen at hl
  have H := Lib.hid h.rd
  have H' := Lib.hid h'.rd
  clear h h'
  have q : ((l.length : Int) != (l.length : Int)) = false := by simp
  go_enter Tryd.func15, Tryd.ntmps15
  go_wp2_with fail
  go_loopw [5] (fun i wr => ∃ k : Nat, k ≤ l.length ∧ i = .int .i64 k ∧ Hid (Kept 0 0 w wr)) (fun i _ => l.length - (intOf i).toNat)
  case atStart => exact ⟨0, Nat.zero_le _, rfl, Lib.hid (Kept.refl _ _ _)⟩
  case round =>
    obtain ⟨k, hk, rfl, HK⟩ := hrel
    by_cases hlt : k < l.length
    · obtain ⟨ad, rfl, _, c0, c1, c2, c3⟩ := (H.out.kept (Nat.le_refl _) HK.out (.inl (Nat.le_refl _))).ev hlt
      obtain ⟨ad', rfl, _, d0, d1, d2, d3⟩ := (H'.out.kept (Nat.le_refl _) HK.out (.inl (Nat.le_refl _))).ev hlt
      obtain ⟨x, hx⟩ : ∃ x, x = l[k] := ⟨_, rfl⟩
      rw [← hx] at c0 c1 c2 c3 d0 d1 d2 d3
      clear hx
      have k0 := cell_regrown c0
      have k1 := cell_regrown c1
      have k2 := cell_regrown c2
      have k3 := cell_regrown c3
      have j0 := cell_regrown d0
      have j1 := cell_regrown d1
      have j2 := cell_regrown d2
      have j3 := cell_regrown d3
      clear c0 c1 c2 c3 d0 d1 d2 d3
      have i1 : (k : Int) < (l.length : Int) := by omega
      go_wp2_with fail
      refine wp_region_quiet_below (by kernel_rfl) (by kernel_rfl) ?_
      repeat (first | go_big_quiet_step (fail) | quiet_step (fail))
      refine wpQuiet_nil ?_
      intro _ hw'
      obtain ⟨⟨dq, osq⟩, hw''⟩ := hw'
      subst hw''
      clear k0 k1 k2 k3 j0 j1 j2 j3
      go_wp2
      go_roundw
      case rel => exact ⟨k + 1, by omega, by go_num, Lib.hid (HK.out.trans (Kept.regrown _ _ _))⟩
      case measure => simp [intOf]; omega
    · go_wp2
      go_ret
      exact ⟨rfl, HK.out⟩
end Go.Proofs.YtgahjachkeoflaaDoor
