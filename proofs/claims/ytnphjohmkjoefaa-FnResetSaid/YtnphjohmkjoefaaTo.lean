/- The reference's functions of timers: where a Seq is, whether a timer and timers are valid; no condition beyond that the timers can be read. -/
import Derived.Test.YtnphjohmkjoefaaTn
namespace Go.Proofs.Ytnphjohmkjoefaa
open Go.RowKit Go.Sort

/-- A timer as it may be below this Next. -/
def tmOk (x : Tm) (next : Int) : Bool := (decide (0 ≤ x.seq) && decide (x.seq ≤ next - 1)) && (decide (0 ≤ x.what) && decide (x.what ≤ 2)) && (decide (0 ≤ x.whom) && decide (x.whom ≤ 99))
theorem tmOk_iff {x : Tm} {next : Int} : tmOk x next = true ↔ (0 ≤ x.seq ∧ x.seq ≤ next - 1) ∧ (0 ≤ x.what ∧ x.what ≤ 2) ∧ 0 ≤ x.whom ∧ x.whom ≤ 99 := by simp [tmOk, and_assoc]
/-- The place of a Seq. -/
def atL : List Tm → Int → Option Nat
  | [], _ => none
  | x :: r, q => if x.seq = q then some 0 else (atL r q).map (· + 1)
def atI (l : List Tm) (q : Int) : Int := match atL l q with | some k => (k : Int) | none => -1
theorem atL_some {l : List Tm} {q : Int} {k : Nat} (h : atL l q = some k) : ∃ hk : k < l.length, l[k].seq = q := by
  induction l generalizing k with
  | nil => simp [atL] at h
  | cons x r ih =>
    simp only [atL] at h
    split at h
    · injection h with h; subst h; exact ⟨by simp, by assumption⟩
    · cases hr : atL r q with
      | none => rw [hr] at h; cases h
      | some j =>
        rw [hr] at h
        injection h with h
        subst h
        obtain ⟨h1, h2⟩ := ih hr
        exact ⟨by simpa using h1, by simpa using h2⟩
theorem atL_none {l : List Tm} {q : Int} : atL l q = none ↔ ∀ x ∈ l, x.seq ≠ q := by
  induction l with
  | nil => simp [atL]
  | cons x r ih =>
    simp only [atL]
    by_cases h : x.seq = q
    · simp [h]
    · simp [h, ih]
/-- The first of a Seq. -/
theorem atL_first {l : List Tm} {q : Int} {k : Nat} (hk : k < l.length) (he : l[k].seq = q) (hn : ∀ j (hj : j < k), (l[j]'(by omega)).seq ≠ q) : atL l q = some k := by
  induction l generalizing k with
  | nil => simp at hk
  | cons x r ih =>
    simp only [atL]
    cases k with
    | zero => rw [if_pos (by simpa using he)]
    | succ k =>
      have h0 := hn 0 (by omega)
      simp only [List.getElem_cons_zero] at h0
      rw [if_neg h0, ih (k := k) (by simpa using hk) (by simpa using he) (fun j hj => by have := hn (j + 1) (by omega); simpa using this)]
      rfl
theorem atI_some {l : List Tm} {q : Int} {k : Nat} (h : atL l q = some k) : atI l q = k := by simp [atI, h]
theorem atI_none {l : List Tm} {q : Int} (h : atL l q = none) : atI l q = -1 := by simp [atI, h]

set_option maxHeartbeats 800000 in
theorem at4_any (t : Tms) (q : Int) (v : Value) (w : World) (B : Nat) (hB : B ≤ w.heap.size) (h : RdM w B v t) :
    Calls Try.prog 23 #[v, .int .i64 q] w fun e w' => e = .returned (.int .i64 (atI t.list q)) ∧ Kept 0 0 w w' := by
  obtain ⟨hv, lv, rfl, h2, h3⟩ := h
  have m2 := h3.len
  unfold maxLen at m2
  obtain ⟨A1, c1, rfl, _⟩ := h2
  obtain ⟨A2, c2, rfl, s3⟩ := h3
  obtain ⟨V, hV⟩ : ∃ V, V = w.alloc (.cells #[.slice A1 t.heap.length c1, .slice A2 t.list.length c2, .int .i64 t.next] 27) := ⟨_, rfl⟩
  have KV : Hid (Kept 0 0 w V) := by show Kept _ _ _ _; rw [hV]; exact Kept.alloc0 _ _
  have B0 : Hid (Blk V w.heap.size 27 #[.slice A1 t.heap.length c1, .slice A2 t.list.length c2, .int .i64 t.next]) := by show Blk _ _ _ _; rw [hV]; exact Blk.new _ _ _
  have S := Lib.hid (s3.rd.kept hB KV.out (.inl (Nat.le_refl _)))
  have a1 : V.cell? ⟨w.heap.size, 1, none⟩ = some (.slice A2 t.list.length c2) := B0.out.cell 1
  have HV := Lib.hid hV
  clear s3 hV
  go_enter Try.func23, Try.ntmps23
  go_wp2
  rw [← HV.out]
  go_loop [5] (fun i => ∃ k : Nat, k ≤ t.list.length ∧ i = .int .i64 k ∧ Hid (∀ j (hj : j < k) (hl : j < t.list.length), t.list[j].seq ≠ q)) (fun i => t.list.length - (intOf i).toNat)
  case atStart => exact ⟨0, Nat.zero_le _, rfl, Lib.hid (fun j hj => by omega)⟩
  case round =>
    obtain ⟨k, hk, rfl, HN⟩ := hrel
    by_cases hlt : k < t.list.length
    · have i1 : (k : Int) < (t.list.length : Int) := by omega
      obtain ⟨ad, rfl, _, d0, d1, d2, d3, d4⟩ := S.out.tm hlt
      by_cases he : t.list[k].seq = q
      · have g1 : (t.list[k].seq == q) = true := by simpa using he
        have E := Lib.hid (atI_some (atL_first hlt he (fun j hj => HN.out j hj (by omega))))
        clear he
        go_wp2
        go_ret
        exact ⟨ret_int E.out.symm, KV.out⟩
      · have g1 : (t.list[k].seq == q) = false := by simpa using he
        have HN2 : Hid (∀ j (hj : j < k + 1) (hl : j < t.list.length), t.list[j].seq ≠ q) := by
          intro j hj hl
          rcases Nat.lt_or_ge j k with h' | h'
          · exact HN.out j h' hl
          · obtain rfl : j = k := by omega
            exact he
        clear he
        go_wp2
        go_round
        case rel => exact ⟨k + 1, by omega, by go_num, HN2⟩
        case measure => simp [intOf]; omega
    · have E : Hid (atI t.list q = -1) := atI_none (atL_none.2 (fun x hx => by
        obtain ⟨j, hj, rfl⟩ := List.getElem_of_mem hx
        exact HN.out j (by omega) hj))
      go_wp2
      go_ret
      exact ⟨ret_int E.out.symm, KV.out⟩

set_option maxHeartbeats 800000 in
theorem timer4_any (x : Tm) (next : Int) (w : World) (h0 : -1000000000 ≤ next) (h1 : next ≤ 1000000000) :
    Calls Try.prog 40 #[.agg #[.int .i64 x.seq, .int .i64 x.due, .int .i64 x.what, .int .i64 x.whom, .bool x.armed], .int .i64 next] w fun e w' => e = .returned (.bool (tmOk x next)) ∧ Kept 0 0 w w' := by
  go_enter Try.func40, Try.ntmps40
  go_wp2_with fail
  with_reducible refine (l1In_any _ _ _ _).mono ?_
  rintro e w' ⟨rfl, rfl⟩
  cases g1 : (decide (0 ≤ x.seq) && decide (x.seq ≤ next - 1))
  · have E : Hid (tmOk x next = false) := by show _ = _; rw [tmOk, g1]; rfl
    clear g1
    go_wp2
    go_ret
    exact ⟨ret_bool E.out.symm, Kept.alloc0 _ _⟩
  · cases g2 : (decide (0 ≤ x.what) && decide (x.what ≤ 2))
    · have E : Hid (tmOk x next = false) := by show _ = _; rw [tmOk, g1, g2]; rfl
      have G2 := Lib.hid g2
      clear g1 g2
      go_wp2_with fail
      with_reducible refine (l1In_any _ _ _ _).mono ?_
      rintro e w' ⟨rfl, rfl⟩
      rw [G2.out]
      go_wp2
      go_ret
      exact ⟨ret_bool E.out.symm, Kept.alloc0 _ _⟩
    · have E : Hid (tmOk x next = (decide (0 ≤ x.whom) && decide (x.whom ≤ 99))) := by show _ = _; rw [tmOk, g1, g2]; rfl
      have G2 := Lib.hid g2
      clear g1 g2
      go_wp2_with fail
      with_reducible refine (l1In_any _ _ _ _).mono ?_
      rintro e w' ⟨rfl, rfl⟩
      rw [G2.out]
      go_wp2_with fail
      with_reducible refine (l1In_any _ _ _ _).mono ?_
      rintro e w' ⟨rfl, rfl⟩
      rw [← E.out]
      go_wp2
      go_ret
      exact ⟨rfl, Kept.alloc0 _ _⟩

/-- Timers as they may be. -/
structure TmsOk (t : Tms) : Prop where
  heap : heapOkB t.heap = true
  len : t.list.length ≤ 64
  next : 0 ≤ t.next ∧ t.next ≤ 1000000
  each : ∀ x ∈ t.list, tmOk x t.next = true
  rise : t.list.Pairwise fun x y => x.seq < y.seq
  armed : ∀ h ∈ t.heap, ∃ x ∈ t.list, x.seq = h.seq ∧ x.armed = true ∧ x.due = h.due
  count : (t.list.filter fun x => x.armed).length = t.heap.length
open Classical in
noncomputable def timersOkB (t : Tms) : Bool := decide (TmsOk t)
theorem timersOk_iff {t : Tms} : timersOkB t = true ↔ TmsOk t := by simp [timersOkB]
theorem timersOk_no {t : Tms} (h : ¬ TmsOk t) : timersOkB t = false := by simp [timersOkB, h]
theorem timersOk_yes {t : Tms} (h : TmsOk t) : timersOkB t = true := by simp [timersOkB, h]
end Go.Proofs.Ytnphjohmkjoefaa
