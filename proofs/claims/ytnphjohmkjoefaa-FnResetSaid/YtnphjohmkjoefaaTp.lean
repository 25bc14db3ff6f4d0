/- The reference's validity of timers; no condition beyond that the timers can be read. -/
import Derived.Test.YtnphjohmkjoefaaTo
namespace Go.Proofs.Ytnphjohmkjoefaa
open Go.RowKit Go.Sort

/-- The first k timers are as they may be. -/
structure PreOk (t : Tms) (k : Nat) : Prop where
  each : ∀ x ∈ t.list.take k, tmOk x t.next = true
  rise : (t.list.take k).Pairwise fun x y => x.seq < y.seq
def armedN (l : List Tm) : Nat := (l.filter fun x => x.armed).length
theorem armedN_succ {l : List Tm} {k : Nat} (hk : k < l.length) : armedN (l.take (k + 1)) = armedN (l.take k) + if l[k].armed then 1 else 0 := by
  unfold armedN
  rw [List.take_succ_eq_append_getElem hk, List.filter_append, List.length_append]
  cases h : l[k].armed <;> simp [h]
theorem armedN_le (l : List Tm) : armedN l ≤ l.length := List.length_filter_le _ _
theorem PreOk.zero (t : Tms) : PreOk t 0 := ⟨by simp, by simp⟩
theorem PreOk.succ {t : Tms} {k : Nat} (h : PreOk t k) (hk : k < t.list.length) (h1 : tmOk t.list[k] t.next = true) (h2 : ∀ m (hm : m + 1 = k), (t.list[m]'(by omega)).seq < t.list[k].seq) : PreOk t (k + 1) := by
  refine ⟨?_, ?_⟩
  · intro x hx
    rw [List.take_succ_eq_append_getElem hk, List.mem_append] at hx
    rcases hx with hx | hx
    · exact h.each x hx
    · simp at hx; subst hx; exact h1
  · rw [List.take_succ_eq_append_getElem hk, List.pairwise_append]
    refine ⟨h.rise, by simp, ?_⟩
    intro x hx y hy
    simp at hy
    subst hy
    obtain ⟨j, hj, rfl⟩ := List.mem_take_iff_getElem.1 hx
    cases k with
    | zero => omega
    | succ m =>
      have hm := h2 m rfl
      rcases Nat.lt_or_ge j m with h' | h'
      · have := (List.pairwise_iff_getElem.1 h.rise) j m (by simp; omega) (by simp; omega) h'
        simp at this
        omega
      · obtain rfl : j = m := by omega
        exact hm
theorem not_each {t : Tms} {k : Nat} (hk : k < t.list.length) (h : tmOk t.list[k] t.next = false) : ¬ TmsOk t := fun o => by
  have := o.each _ (List.getElem_mem hk); rw [h] at this; cases this
theorem not_rise {t : Tms} {m : Nat} (hk : m + 1 < t.list.length) (h : t.list[m + 1].seq ≤ (t.list[m]'(by omega)).seq) : ¬ TmsOk t := fun o => by
  have := (List.pairwise_iff_getElem.1 o.rise) m (m + 1) (by omega) hk (by omega)
  omega
/-- The first k of the heap are those of timers that are armed. -/
def MatchOk (t : Tms) (k : Nat) : Prop := ∀ h ∈ t.heap.take k, ∃ x ∈ t.list, x.seq = h.seq ∧ x.armed = true ∧ x.due = h.due
theorem MatchOk.zero (t : Tms) : MatchOk t 0 := by intro h hh; simp at hh
theorem MatchOk.succ {t : Tms} {k j : Nat} (h : MatchOk t k) (hk : k < t.heap.length) (hj : j < t.list.length) (h1 : t.list[j].seq = t.heap[k].seq) (h2 : t.list[j].armed = true) (h3 : t.list[j].due = t.heap[k].due) : MatchOk t (k + 1) := by
  intro x hx
  rw [List.take_succ_eq_append_getElem hk, List.mem_append] at hx
  rcases hx with hx | hx
  · exact h x hx
  · simp at hx; subst hx; exact ⟨_, List.getElem_mem hj, h1, h2, h3⟩
theorem rise_same {l : List Tm} (hr : l.Pairwise fun x y => x.seq < y.seq) {i j : Nat} (hi : i < l.length) (hj : j < l.length) (e : l[i].seq = l[j].seq) : i = j := by
  rcases Nat.lt_trichotomy i j with h | h | h
  · have := (List.pairwise_iff_getElem.1 hr) i j hi hj h; omega
  · exact h
  · have := (List.pairwise_iff_getElem.1 hr) j i hj hi h; omega
theorem not_found {t : Tms} {k : Nat} (hk : k < t.heap.length) (h : atL t.list t.heap[k].seq = none) : ¬ TmsOk t := fun o => by
  obtain ⟨x, hx, e, _⟩ := o.armed _ (List.getElem_mem hk)
  exact atL_none.1 h x hx e
theorem not_match {t : Tms} {k j : Nat} (hk : k < t.heap.length) (hj : j < t.list.length) (e : t.list[j].seq = t.heap[k].seq) (h : t.list[j].armed = false ∨ t.list[j].due ≠ t.heap[k].due) : ¬ TmsOk t := fun o => by
  obtain ⟨x, hx, e1, e2, e3⟩ := o.armed _ (List.getElem_mem hk)
  obtain ⟨i, hi, rfl⟩ := List.getElem_of_mem hx
  obtain rfl := rise_same o.rise hi hj (e1.trans e.symm)
  rcases h with h | h
  · rw [h] at e2; cases e2
  · exact h e3

set_option maxHeartbeats 6400000 in
set_option maxRecDepth 100000 in
theorem ok4_any (t : Tms) (v : Value) (w : World) (h : RdM w w.heap.size v t) :
    Calls Try.prog 21 #[v] w fun e w' => e = .returned (.bool (timersOkB t)) ∧ Kept 0 0 w w' := by
  obtain ⟨hv, lv, rfl, h2, h3⟩ := h
  have m1 := h2.len
  have m2 := h3.len
  unfold maxLen at m1 m2
  obtain ⟨V0, hV⟩ : ∃ V, V = w.alloc (.cells #[hv, lv, .int .i64 t.next] 27) := ⟨_, rfl⟩
  have KV : Hid (Kept 0 0 w V0) := by show Kept _ _ _ _; rw [hV]; exact Kept.alloc0 _ _
  have CH := Lib.hid (specHeapOk.at_ t.heap hv V0 (h2.up KV.out))
  have zV := KV.out.size
  have R2 := Lib.hid h2
  have R3 := Lib.hid h3
  obtain ⟨A1, c1, rfl, s2⟩ := h2
  obtain ⟨A2, c2, rfl, s3⟩ := h3
  have B00 : Hid (Blk V0 w.heap.size 27 #[.slice A1 t.heap.length c1, .slice A2 t.list.length c2, .int .i64 t.next]) := by show Blk _ _ _ _; rw [hV]; exact Blk.new _ _ _
  clear s2 s3
  go_enter Try.func21, Try.ntmps21
  go_wp2_with fail
  rw [← hV]
  with_reducible refine CH.out.mono ?_
  rintro e V ⟨rfl, hk⟩
  have K0 := Lib.hid (KV.out.trans hk)
  have B0 := Lib.hid (B00.out.kept hk (.inl (Nat.le_refl _)))
  have z1 := hk.size
  have yB := B0.out.lt
  clear hk hV CH B00 KV
  have KW0 := Lib.hid (Kept.refl 0 0 V)
  cases ho : heapOkB t.heap
  · have E := Lib.hid (timersOk_no (t := t) (fun o => by rw [o.heap] at ho; cases ho))
    clear ho
    go_wp2_with fail
    go_ret
    exact ⟨ret_bool E.out.symm, K0.out⟩
  · have a1 : V.cell? ⟨w.heap.size, 1, none⟩ = some (.slice A2 t.list.length c2) := B0.out.cell 1
    have a2 : V.cell? ⟨w.heap.size, 2, none⟩ = some (.int .i64 t.next) := B0.out.cell 2
    by_cases hl : t.list.length ≤ 64
    · have hl' : ¬ (64 : Int) < (t.list.length : Int) := by omega
      go_wp2_with fail
      with_reducible refine (l1In_any _ _ _ _).mono ?_
      rintro e w' ⟨rfl, rfl⟩
      cases gn : (decide (0 ≤ t.next) && decide (t.next ≤ 1000000))
      · have E := Lib.hid (timersOk_no (t := t) (fun o => by have := o.next; simp at gn; omega))
        clear gn ho
        go_wp2_with fail
        go_ret
        exact ⟨ret_bool E.out.symm, K0.out⟩
      · have hnx : 0 ≤ t.next ∧ t.next ≤ 1000000 := by simpa using gn
        have HO := Lib.hid ho
        have S := Lib.hid (show RdR tmR V V.heap.size A2 t.list by obtain ⟨A', c', e', s'⟩ := R3.out.up K0.out; injection e' with e1 e2 e3; subst e1; exact s'.rd)
        have SH := Lib.hid (show RdR twR V V.heap.size A1 t.heap by obtain ⟨A', c', e', s'⟩ := R2.out.up K0.out; injection e' with e1 e2 e3; subst e1; exact s'.rd)
        clear gn ho hl' a1 a2
        go_wp2_with fail
        go_loopw [3, 4] (fun v3 v4 wr => ∃ k : Nat, k ≤ t.list.length ∧ v3 = .int .i64 (armedN (t.list.take k)) ∧ v4 = .int .i64 k ∧ Hid (PreOk t k) ∧ Hid (Kept 0 0 V wr)) (fun _ v4 _ => t.list.length - (intOf v4).toNat)
        case atStart => exact ⟨0, Nat.zero_le _, rfl, rfl, Lib.hid (PreOk.zero t), KW0⟩
        case round =>
          obtain ⟨k0, hk, rfl, rfl, HP, HK⟩ := hrel
          have BW := Lib.hid (B0.out.kept HK.out (.inl (Nat.le_refl _)))
          have b1 : wr.cell? ⟨w.heap.size, 1, none⟩ = some (.slice A2 t.list.length c2) := BW.out.cell 1
          have b2 : wr.cell? ⟨w.heap.size, 2, none⟩ = some (.int .i64 t.next) := BW.out.cell 2
          have nA : armedN (t.list.take k0) ≤ 64 := by have := armedN_le (t.list.take k0); simp at this; omega
          by_cases hlt : k0 < t.list.length
          · have i1 : (k0 : Int) < (t.list.length : Int) := by omega
            obtain ⟨ad, e1, _, d0, d1, d2, d3, d4⟩ := (S.out.kept (Nat.le_refl _) HK.out (.inl (Nat.le_refl _))).tm hlt
            subst e1
            have CO := Lib.hid (fun d os => regrown_call (timer4_any t.list[k0] t.next (grow (redrawn wr d) os) (by omega) (by omega)))
            cases ht : tmOk t.list[k0] t.next
            · rw [ht] at CO
              have E := Lib.hid (timersOk_no (not_each hlt ht))
              clear ht
              go_wp2_with fail
              have k1 := cell_regrown b1
              have k2 := cell_regrown b2
              have k3 := cell_regrown d0
              have k4 := cell_regrown d1
              have k5 := cell_regrown d2
              have k6 := cell_regrown d3
              have k7 := cell_regrown d4
              clear b1 b2 d0 d1 d2 d3 d4
              refine wp_region_quiet_below (by kernel_rfl) (by kernel_rfl) ?_
              repeat (first | go_big_quiet_step (with_reducible exact CO.out _ _) | quiet_step (with_reducible exact CO.out _ _))
              refine wpQuiet_nil ?_
              intro _ hw'
              obtain ⟨⟨dq, osq⟩, hw''⟩ := hw'
              subst hw''
              obtain ⟨W, hW⟩ : ∃ W, W = grow (redrawn wr dq) osq := ⟨_, rfl⟩
              have KW : Hid (Kept 0 0 V W) := by show Kept _ _ _ _; rw [hW]; exact HK.out.trans (Kept.regrown wr dq osq)
              rw [← hW]
              clear hW
              go_wp2_with fail
              go_ret
              exact ⟨ret_bool E.out.symm, K0.out.trans KW.out⟩
            · rw [ht] at CO
              by_cases hz : k0 = 0
              · have HP2 := Lib.hid (HP.out.succ hlt ht (fun m hm => by omega))
                have gz : decide ((0 : Int) < (k0 : Int)) = false := by simp; omega
                have gz' : decide (0 < k0) = false := by simp; omega
                clear ht hz
                go_wp2_with fail
                have k1 := cell_regrown b1
                have k2 := cell_regrown b2
                have k3 := cell_regrown d0
                have k4 := cell_regrown d1
                have k5 := cell_regrown d2
                have k6 := cell_regrown d3
                have k7 := cell_regrown d4
                clear b1 b2 d0 d1 d2 d3 d4
                refine wp_region_quiet_below (by kernel_rfl) (by kernel_rfl) ?_
                repeat (first | go_big_quiet_step (with_reducible exact CO.out _ _) | quiet_step (with_reducible exact CO.out _ _))
                refine wpQuiet_nil ?_
                intro _ hw'
                obtain ⟨⟨dq, osq⟩, hw''⟩ := hw'
                subst hw''
                clear gz gz'
                obtain ⟨W, hW⟩ : ∃ W, W = grow (redrawn wr dq) osq := ⟨_, rfl⟩
                have KW : Hid (Kept 0 0 V W) := by show Kept _ _ _ _; rw [hW]; exact HK.out.trans (Kept.regrown wr dq osq)
                rw [← hW]
                clear hW
                obtain ⟨ad2, e2, _, q0, q1, q2, q3, q4⟩ := (S.out.kept (by omega) KW.out (.inl (Nat.le_refl _))).tm hlt
                injection e2 with e2
                subst e2
                have a1 : W.cell? ⟨w.heap.size, 1, none⟩ = some (.slice (some ad) t.list.length c2) := (B0.out.kept KW.out (.inl (Nat.le_refl _))).cell 1
                have EA := Lib.hid (armedN_succ hlt)
                cases hA : t.list[k0].armed
                · rw [hA] at EA q4
                  clear hA
                  go_wp2_with fail
                  go_roundw
                  case rel => exact ⟨k0 + 1, by omega, by rw [EA.out]; rfl, by go_num, HP2, KW⟩
                  case measure => simp [intOf]; omega
                · rw [hA] at EA q4
                  clear hA
                  go_wp2_with fail
                  go_roundw
                  case rel => exact ⟨k0 + 1, by omega, by rw [EA.out]; go_num, by go_num, HP2, KW⟩
                  case measure => simp [intOf]; omega
              · have hm : k0 - 1 < t.list.length := by omega
                obtain ⟨ad3, e3, _, u0, u1, u2, u3, u4⟩ := (S.out.kept (Nat.le_refl _) HK.out (.inl (Nat.le_refl _))).tm hm
                injection e3 with e3
                subst e3
                have k8 := cell_regrown u0
                have p0 : (0 : Int) < (k0 : Int) := by omega
                have p0' : 0 < k0 := by omega
                have p1 : IntKind.i64.wrap ((k0 : Int) - 1) = (k0 : Int) - 1 := IntWalk.i64_in _ (by omega)
                have p2 : 0 ≤ (k0 : Int) - 1 := by omega
                have p2' : (1 : Int) ≤ (k0 : Int) := by omega
                have p3 : ((k0 : Int) - 1).toNat = k0 - 1 := by omega
                have p4 : (k0 : Int) - 1 < (t.list.length : Int) := by omega
                by_cases hs : t.list[k0].seq ≤ t.list[k0 - 1].seq
                · have gs : decide (t.list[k0].seq ≤ t.list[k0 - 1].seq) = true := by simpa using hs
                  have E : Hid (timersOkB t = false) := by
                    obtain ⟨m, rfl⟩ : ∃ m, k0 = m + 1 := ⟨k0 - 1, by omega⟩
                    exact timersOk_no (not_rise hlt hs)
                  clear ht hs hz
                  go_wp2_with fail
                  have k1 := cell_regrown b1
                  have k2 := cell_regrown b2
                  have k3 := cell_regrown d0
                  have k4 := cell_regrown d1
                  have k5 := cell_regrown d2
                  have k6 := cell_regrown d3
                  have k7 := cell_regrown d4
                  clear b1 b2 d0 d1 d2 d3 d4 u0 u1 u2 u3 u4
                  refine wp_region_quiet_below (by kernel_rfl) (by kernel_rfl) ?_
                  repeat (first | go_big_quiet_step (with_reducible exact CO.out _ _) | quiet_step (with_reducible exact CO.out _ _))
                  refine wpQuiet_nil ?_
                  intro _ hw'
                  obtain ⟨⟨dq, osq⟩, hw''⟩ := hw'
                  subst hw''
                  obtain ⟨W, hW⟩ : ∃ W, W = grow (redrawn wr dq) osq := ⟨_, rfl⟩
                  have KW : Hid (Kept 0 0 V W) := by show Kept _ _ _ _; rw [hW]; exact HK.out.trans (Kept.regrown wr dq osq)
                  rw [← hW]
                  clear hW
                  go_wp2_with fail
                  go_ret
                  exact ⟨ret_bool E.out.symm, K0.out.trans KW.out⟩
                · have gs : decide (t.list[k0].seq ≤ t.list[k0 - 1].seq) = false := by simpa using hs
                  have HP2 : Hid (PreOk t (k0 + 1)) := HP.out.succ hlt ht (fun m hm => by obtain rfl : m = k0 - 1 := by omega
                                                                                          omega)
                  clear ht hs hz
                  go_wp2_with fail
                  have k1 := cell_regrown b1
                  have k2 := cell_regrown b2
                  have k3 := cell_regrown d0
                  have k4 := cell_regrown d1
                  have k5 := cell_regrown d2
                  have k6 := cell_regrown d3
                  have k7 := cell_regrown d4
                  clear b1 b2 d0 d1 d2 d3 d4 u0 u1 u2 u3 u4
                  refine wp_region_quiet_below (by kernel_rfl) (by kernel_rfl) ?_
                  repeat (first | go_big_quiet_step (with_reducible exact CO.out _ _) | quiet_step (with_reducible exact CO.out _ _))
                  refine wpQuiet_nil ?_
                  intro _ hw'
                  obtain ⟨⟨dq, osq⟩, hw''⟩ := hw'
                  subst hw''
                  clear p0 p0' p1 p2 p2' p3 p4 gs
                  obtain ⟨W, hW⟩ : ∃ W, W = grow (redrawn wr dq) osq := ⟨_, rfl⟩
                  have KW : Hid (Kept 0 0 V W) := by show Kept _ _ _ _; rw [hW]; exact HK.out.trans (Kept.regrown wr dq osq)
                  rw [← hW]
                  clear hW
                  obtain ⟨ad2, e2, _, q0, q1, q2, q3, q4⟩ := (S.out.kept (by omega) KW.out (.inl (Nat.le_refl _))).tm hlt
                  injection e2 with e2
                  subst e2
                  have a1 : W.cell? ⟨w.heap.size, 1, none⟩ = some (.slice (some ad) t.list.length c2) := (B0.out.kept KW.out (.inl (Nat.le_refl _))).cell 1
                  have EA := Lib.hid (armedN_succ hlt)
                  cases hA : t.list[k0].armed
                  · rw [hA] at EA q4
                    clear hA
                    go_wp2_with fail
                    go_roundw
                    case rel => exact ⟨k0 + 1, by omega, by rw [EA.out]; rfl, by go_num, HP2, KW⟩
                    case measure => simp [intOf]; omega
                  · rw [hA] at EA q4
                    clear hA
                    go_wp2_with fail
                    go_roundw
                    case rel => exact ⟨k0 + 1, by omega, by rw [EA.out]; go_num, by go_num, HP2, KW⟩
                    case measure => simp [intOf]; omega
          · have ek : t.list.take k0 = t.list := List.take_of_length_le (by omega)
            have OK : Hid (PreOk t t.list.length) := by
              have h0 := HP.out
              refine ⟨?_, ?_⟩
              · have := h0.each; rw [ek] at this; rw [List.take_length]; exact this
              · have := h0.rise; rw [ek] at this; rw [List.take_length]; exact this
            rw [ek] at nA ⊢
            clear ek HP
            go_wp2_with fail
            go_loopw [5, 6] (fun v5 _ wx => ∃ j : Nat, j ≤ t.heap.length ∧ v5 = .int .i64 j ∧ Hid (MatchOk t j) ∧ Hid (Kept 0 0 V wx)) (fun v5 _ _ => t.heap.length - (intOf v5).toNat)
            case atStart => exact ⟨0, Nat.zero_le _, rfl, Lib.hid (MatchOk.zero t), HK⟩
            case round =>
              clear BW b1 b2 HK
              obtain ⟨j, hj, rfl, HM, HX⟩ := hrel
              have BX := Lib.hid (B0.out.kept HX.out (.inl (Nat.le_refl _)))
              have b0 : wr.cell? ⟨w.heap.size, 0, none⟩ = some (.slice A1 t.heap.length c1) := BX.out.cell 0
              have b1 : wr.cell? ⟨w.heap.size, 1, none⟩ = some (.slice A2 t.list.length c2) := BX.out.cell 1
              have b2 : wr.cell? ⟨w.heap.size, 2, none⟩ = some (.int .i64 t.next) := BX.out.cell 2
              by_cases hjt : j < t.heap.length
              · have i1 : (j : Int) < (t.heap.length : Int) := by omega
                obtain ⟨ah, e1, _, h0, h1, h2⟩ := (SH.out.kept (Nat.le_refl _) HX.out (.inl (Nat.le_refl _))).tw hjt
                subst e1
                have RX : Hid (RdM wr wr.heap.size (.agg #[.slice (some ah) t.heap.length c1, .slice A2 t.list.length c2, .int .i64 t.next]) t) := ⟨_, _, rfl, R2.out.up (K0.out.trans HX.out), R3.out.up (K0.out.trans HX.out)⟩
                have CO := Lib.hid (fun d os => regrown_call (at4_any t t.heap[j].seq _ (grow (redrawn wr d) os) _ (Nat.le_refl _) (RX.out.up (Kept.regrown wr d os))))
                go_wp2_with fail
                have k0' := cell_regrown b0
                have k1 := cell_regrown b1
                have k2 := cell_regrown b2
                have k3 := cell_regrown h0
                have k4 := cell_regrown h1
                have k5 := cell_regrown h2
                clear b0 b1 b2 h0 h1 h2
                refine wp_region_quiet_below (by kernel_rfl) (by kernel_rfl) ?_
                repeat (first | go_big_quiet_step (with_reducible exact CO.out _ _) | quiet_step (with_reducible exact CO.out _ _))
                refine wpQuiet_nil ?_
                intro _ hw'
                obtain ⟨⟨dq, osq⟩, hw''⟩ := hw'
                subst hw''
                obtain ⟨W, hW⟩ : ∃ W, W = grow (redrawn wr dq) osq := ⟨_, rfl⟩
                have KW : Hid (Kept 0 0 V W) := by show Kept _ _ _ _; rw [hW]; exact HX.out.trans (Kept.regrown wr dq osq)
                rw [← hW]
                clear hW k0' k1 k2 k3 k4 k5 CO
                have BY := Lib.hid (B0.out.kept KW.out (.inl (Nat.le_refl _)))
                have b0 : W.cell? ⟨w.heap.size, 0, none⟩ = some (.slice (some ah) t.heap.length c1) := BY.out.cell 0
                have b1 : W.cell? ⟨w.heap.size, 1, none⟩ = some (.slice A2 t.list.length c2) := BY.out.cell 1
                obtain ⟨ah', e1, _, h0, h1, h2⟩ := (SH.out.kept (Nat.le_refl _) KW.out (.inl (Nat.le_refl _))).tw hjt
                injection e1 with e1
                subst e1
                cases hp : atL t.list t.heap[j].seq with
                | none =>
                  have E := Lib.hid (timersOk_no (not_found hjt hp))
                  rw [atI_none hp]
                  clear hp
                  go_wp2_with fail
                  go_quiet (fail)
                  go_wp2_with fail
                  go_ret
                  exact ⟨ret_bool E.out.symm, (K0.out.trans KW.out).drewN _⟩
                | some p =>
                  obtain ⟨hpl, hpe⟩ := atL_some hp
                  rw [atI_some hp]
                  have i2 : (p : Int) < (t.list.length : Int) := by omega
                  have i3 : decide ((p : Int) < 0) = false := by simp
                  obtain ⟨al, e2, _, q0, q1, q2, q3, q4⟩ := (S.out.kept (Nat.le_refl _) KW.out (.inl (Nat.le_refl _))).tm hpl
                  subst e2
                  cases hA : t.list[p].armed
                  · have E := Lib.hid (timersOk_no (not_match hjt hpl hpe (.inl hA)))
                    rw [hA] at q4
                    clear hp hA hpe
                    go_wp2_with fail
                    go_quiet (fail)
                    go_wp2_with fail
                    go_ret
                    exact ⟨ret_bool E.out.symm, (K0.out.trans KW.out).drewN _⟩
                  · by_cases hd : t.list[p].due = t.heap[j].due
                    · have g1 : (t.list[p].due != t.heap[j].due) = false := by simpa using hd
                      have HM2 := Lib.hid (HM.out.succ hjt hpl hpe hA hd)
                      rw [hA] at q4
                      clear hp hA hpe hd
                      go_wp2_with fail
                      go_quiet (fail)
                      go_wp2_with fail
                      go_roundw
                      case rel => exact ⟨j + 1, by omega, by go_num, HM2, Lib.hid (KW.out.drewN _)⟩
                      case measure => simp [intOf]; omega
                    · have g1 : (t.list[p].due != t.heap[j].due) = true := by simpa using hd
                      have E := Lib.hid (timersOk_no (not_match hjt hpl hpe (.inr hd)))
                      rw [hA] at q4
                      clear hp hA hpe hd
                      go_wp2_with fail
                      go_quiet (fail)
                      go_wp2_with fail
                      go_ret
                      exact ⟨ret_bool E.out.symm, (K0.out.trans KW.out).drewN _⟩
              · have HA : Hid (∀ x ∈ t.heap, ∃ y ∈ t.list, y.seq = x.seq ∧ y.armed = true ∧ y.due = x.due) := by
                  have := HM.out
                  unfold MatchOk at this
                  rw [List.take_of_length_le (by omega)] at this
                  exact this
                have KW := Lib.hid (K0.out.trans HX.out)
                by_cases hc : armedN t.list = t.heap.length
                · have g1 : ((armedN t.list : Int) == (t.heap.length : Int)) = true := by simp [hc]
                  have E : Hid (timersOkB t = true) := timersOk_yes ⟨HO.out, hl, hnx, by have := OK.out.each; rwa [List.take_length] at this, by have := OK.out.rise; rwa [List.take_length] at this, HA.out, hc⟩
                  clear hc
                  go_wp2_with fail
                  go_ret
                  exact ⟨ret_bool E.out.symm, KW.out⟩
                · have g1 : ((armedN t.list : Int) == (t.heap.length : Int)) = false := by simp; omega
                  have E := Lib.hid (timersOk_no (t := t) (fun o => hc o.count))
                  clear hc
                  go_wp2_with fail
                  go_ret
                  exact ⟨ret_bool E.out.symm, KW.out⟩
    · have hl' : (64 : Int) < (t.list.length : Int) := by omega
      have E := Lib.hid (timersOk_no (t := t) (fun o => hl o.len))
      clear hl ho
      go_wp2_with fail
      go_ret
      exact ⟨ret_bool E.out.symm, K0.out⟩
end Go.Proofs.Ytnphjohmkjoefaa
