/- The program's tests of a timer's purpose, of a time and of a list of timers; no condition beyond that the list can be read. -/
import Derived.Test.YtnphjohmkjoefaaQa
namespace Go.Proofs.Ytnphjohmkjoefaa
open Go.RowKit Go.Sort

def purposeB (what whom : Int) : Bool := (decide (0 ≤ what) && decide (what ≤ 2)) && (decide (0 ≤ whom) && decide (whom ≤ 99))
theorem tmOk_purpose (x : Tm) (next : Int) : tmOk x next = ((decide (0 ≤ x.seq) && decide (x.seq ≤ next - 1)) && purposeB x.what x.whom) := by
  simp [tmOk, purposeB, Bool.and_assoc]
set_option maxHeartbeats 800000 in
theorem purpose_any (what whom : Int) (w : World) : Calls Try.prog 63 #[.int .i64 what, .int .i64 whom] w fun e w' => e = .returned (.bool (purposeB what whom)) ∧ w = w' := by
  have E : Hid (purposeB what whom = ((decide (0 ≤ what) && decide (what ≤ 2)) && (decide (0 ≤ whom) && decide (whom ≤ 99)))) := by show _ = _; rfl
  go_enter Try.func63, Try.ntmps63
  by_cases h1 : 0 ≤ what
  · by_cases h2 : what ≤ 2
    · by_cases h3 : 0 ≤ whom
      · by_cases h4 : whom ≤ 99
        · go_wp2_with fail
          go_ret
          exact ⟨by rw [E.out]; simp [h1, h2, h3, h4], rfl⟩
        · go_wp2_with fail
          go_ret
          exact ⟨by rw [E.out]; simp [h1, h2, h3, h4], rfl⟩
      · go_wp2_with fail
        go_ret
        exact ⟨by rw [E.out]; simp [h1, h2]; omega, rfl⟩
    · go_wp2_with fail
      go_ret
      exact ⟨by rw [E.out]; simp [h1]; omega, rfl⟩
  · go_wp2_with fail
    go_ret
    exact ⟨by rw [E.out]; simp; omega, rfl⟩

/-- A list of timers as it may be. -/
structure ListOk (T : Tms) : Prop where
  next : 0 ≤ T.next ∧ T.next ≤ 1000000
  len : T.list.length ≤ 64
  pre : PreOk T T.list.length
open Classical in
noncomputable def listOkB (T : Tms) : Bool := decide (ListOk T)
theorem listOk_iff {T : Tms} : listOkB T = true ↔ ListOk T := by simp [listOkB]
theorem listOk_no {T : Tms} (h : ¬ ListOk T) : listOkB T = false := by simp [listOkB, h]
theorem listOk_yes {T : Tms} (h : ListOk T) : listOkB T = true := by simp [listOkB, h]
theorem ListOk.each {T : Tms} (h : ListOk T) : ∀ x ∈ T.list, tmOk x T.next = true := by have := h.pre.each; rwa [List.take_of_length_le (Nat.le_refl _)] at this
theorem ListOk.rise {T : Tms} (h : ListOk T) : T.list.Pairwise fun x y => x.seq < y.seq := by have := h.pre.rise; rwa [List.take_of_length_le (Nat.le_refl _)] at this
theorem TmsOk.listOk {T : Tms} (o : TmsOk T) : ListOk T := ⟨o.next, o.len, by rw [List.take_of_length_le (Nat.le_refl _)]; exact o.each, by rw [List.take_of_length_le (Nat.le_refl _)]; exact o.rise⟩
/-- What the next Seq is at the least. -/
def leastAt (T : Tms) : Nat → Int
  | 0 => 0
  | k + 1 => (T.list.getD k ⟨0, 0, 0, 0, false⟩).seq + 1
theorem leastAt_succ {T : Tms} {k : Nat} (hk : k < T.list.length) : leastAt T (k + 1) = T.list[k].seq + 1 := by simp [leastAt, List.getD, List.getElem?_eq_getElem hk]
theorem not_least {T : Tms} {k : Nat} (hk : k < T.list.length) (h : T.list[k].seq < leastAt T k) : ¬ ListOk T := fun o => by
  cases k with
  | zero =>
    have := (tmOk_iff.1 (o.each _ (List.getElem_mem hk))).1.1
    simp only [leastAt] at h
    omega
  | succ m =>
    rw [leastAt_succ (by omega)] at h
    have := (List.pairwise_iff_getElem.1 o.rise) m (m + 1) (by omega) hk (by omega)
    omega
theorem not_tmOk {T : Tms} {k : Nat} (hk : k < T.list.length) (h : tmOk T.list[k] T.next = false) : ¬ ListOk T := fun o => by
  have := o.each _ (List.getElem_mem hk); rw [h] at this; cases this
theorem least_pos {T : Tms} {k : Nat} (h : PreOk T k) (hk : k ≤ T.list.length) (hn : T.next ≤ 1000000) : 0 ≤ leastAt T k ∧ leastAt T k ≤ 1000000 := by
  cases k with
  | zero => simp [leastAt]
  | succ m =>
    rw [leastAt_succ (by omega)]
    have := (tmOk_iff.1 (h.each T.list[m] (List.mem_take_iff_getElem.2 ⟨m, by omega, rfl⟩))).1
    omega
theorem PreOk.next {T : Tms} {k : Nat} (h : PreOk T k) (hk : k < T.list.length) (h1 : leastAt T k ≤ T.list[k].seq) (h2 : T.list[k].seq < T.next) (h3 : purposeB T.list[k].what T.list[k].whom = true) : PreOk T (k + 1) := by
  have hp : 0 ≤ T.list[k].seq := by
    have : 0 ≤ leastAt T k := by
      cases k with
      | zero => simp [leastAt]
      | succ m =>
        rw [leastAt_succ (by omega)]
        have := (tmOk_iff.1 (h.each T.list[m] (List.mem_take_iff_getElem.2 ⟨m, by omega, rfl⟩))).1
        omega
    omega
  refine h.succ hk ?_ ?_
  · rw [tmOk_purpose, h3]; simp; omega
  · intro m hm
    subst hm
    rw [leastAt_succ (by omega)] at h1
    omega

set_option maxHeartbeats 3200000 in
theorem listTest_any (T : Tms) (v : Value) (w : World) (h : RdTm w w.heap.size v T.list) :
    Calls Try.prog 46 #[v, .int .i64 T.next] w fun e w' => e = .returned (.bool (listOkB T)) ∧ Kept 0 0 w w' := by
  obtain ⟨A, c, rfl, h⟩ := h
  have hm := h.rd.1
  unfold maxLen at hm
  have H := Lib.hid h
  clear h
  by_cases n0 : 0 ≤ T.next
  · by_cases n1 : T.next ≤ 1000000
    · by_cases hl : T.list.length ≤ 64
      · have hl' : (T.list.length : Int) ≤ 64 := by omega
        go_enter Try.func46, Try.ntmps46
        go_wp2
        go_loopw [5, 21] (fun l i wr => ∃ k : Nat, k ≤ T.list.length ∧ i = .int .i64 k ∧ l = .int .i64 (leastAt T k) ∧ Hid (PreOk T k) ∧ Hid (Kept 0 0 w wr)) (fun _ i _ => T.list.length - (intOf i).toNat)
        case atStart => exact ⟨0, Nat.zero_le _, rfl, rfl, Lib.hid (PreOk.zero T), Lib.hid (Kept.refl _ _ _)⟩
        case round =>
          obtain ⟨k, hk, rfl, rfl, HP, HK⟩ := hrel
          have lp := least_pos HP.out hk n1
          by_cases hlt : k < T.list.length
          · have i1 : (k : Int) < (T.list.length : Int) := by omega
            have R := Lib.hid (H.out.rd.kept (Nat.le_refl _) HK.out (.inl (Nat.le_refl _)))
            obtain ⟨ad, e1, _, c0, c1, c2, c3, c4⟩ := R.out.tm hlt
            subst e1
            by_cases g1 : T.list[k].seq < leastAt T k
            · have E := Lib.hid (listOk_no (not_least hlt g1))
              go_wp2_with fail
              go_ret
              exact ⟨ret_bool E.out.symm, HK.out.alloc _⟩
            · by_cases g2 : T.next ≤ T.list[k].seq
              · have E : Hid (listOkB T = false) := listOk_no (not_tmOk hlt (by rw [tmOk_purpose, decide_eq_false (by omega : ¬ T.list[k].seq ≤ T.next - 1)]; simp))
                go_wp2_with fail
                go_ret
                exact ⟨ret_bool E.out.symm, HK.out.alloc _⟩
              · cases hp : purposeB T.list[k].what T.list[k].whom
                · have E : Hid (listOkB T = false) := listOk_no (not_tmOk hlt (by rw [tmOk_purpose, hp]; simp))
                  have HQ := Lib.hid hp
                  clear hp
                  go_wp2_with fail
                  with_reducible refine (purpose_any _ _ _).mono ?_
                  rintro e w' ⟨rfl, rfl⟩
                  rw [HQ.out]
                  go_wp2_with fail
                  go_ret
                  exact ⟨ret_bool E.out.symm, HK.out.alloc _⟩
                · have HP2 := Lib.hid (HP.out.next hlt (by omega) (by omega) hp)
                  have E := Lib.hid (leastAt_succ hlt)
                  have HQ := Lib.hid hp
                  clear hp
                  go_wp2_with fail
                  with_reducible refine (purpose_any _ _ _).mono ?_
                  rintro e w' ⟨rfl, rfl⟩
                  rw [HQ.out]
                  go_wp2_with fail
                  go_roundw
                  case rel => exact ⟨k + 1, by omega, by go_num, by rw [E.out], HP2, Lib.hid (HK.out.alloc _)⟩
                  case measure => simp [intOf]; omega
          · have E : Hid (listOkB T = true) := listOk_yes ⟨⟨n0, n1⟩, hl, by have := HP.out; rwa [show k = T.list.length by omega] at this⟩
            go_wp2
            go_ret
            exact ⟨ret_bool E.out.symm, HK.out⟩
      · have E : Hid (listOkB T = false) := listOk_no (fun o => hl o.len)
        have hl' : (64 : Int) < (T.list.length : Int) := by omega
        clear hl
        go_enter Try.func46, Try.ntmps46
        go_wp2
        go_ret
        exact ⟨ret_bool E.out.symm, Kept.refl _ _ _⟩
    · have E : Hid (listOkB T = false) := listOk_no (fun o => n1 o.next.2)
      go_enter Try.func46, Try.ntmps46
      go_wp2
      go_ret
      exact ⟨ret_bool E.out.symm, Kept.refl _ _ _⟩
  · have E : Hid (listOkB T = false) := listOk_no (fun o => n0 o.next.1)
    go_enter Try.func46, Try.ntmps46
    go_wp2
    go_ret
    exact ⟨ret_bool E.out.symm, Kept.refl _ _ _⟩
end Go.Proofs.Ytnphjohmkjoefaa
