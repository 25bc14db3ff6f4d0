/- The reference's QueuedBy; no condition beyond that the afters can be read. -/
import Derived.Test.YtnnbfcmbcjkpoaaCh
namespace Go.Proofs.Ytnnbfcmbcjkpoaa
open Go.RowKit Go.Sort

/-- The first n queued where they are of the node. -/
def qPart (node : Int) (l : List Aft) (n : Nat) : List Aft := (l.take n).map (queue1 node) ++ l.drop n
theorem qPart_zero (node : Int) (l : List Aft) : qPart node l 0 = l := by simp [qPart]
theorem qPart_all (node : Int) (l : List Aft) (n : Nat) (h : l.length ≤ n) : qPart node l n = l.map (queue1 node) := by
  simp [qPart, List.take_of_length_le h, List.drop_eq_nil_of_le h]
theorem qPart_len (node : Int) (l : List Aft) (n : Nat) (h : n ≤ l.length) : (qPart node l n).length = l.length := by simp [qPart]; omega
theorem qPart_at (node : Int) (l : List Aft) (n : Nat) (h : n < l.length) : (qPart node l n)[n]'(by rw [qPart_len node l n (Nat.le_of_lt h)]; exact h) = l[n] := by
  unfold qPart
  rw [List.getElem_append_right (by simp; omega)]
  simp [Nat.min_eq_left (Nat.le_of_lt h)]
theorem qPart_succ (node : Int) (l : List Aft) (n : Nat) (h : n < l.length) : (qPart node l n).set n (queue1 node l[n]) = qPart node l (n + 1) := by
  unfold qPart
  have hl : ((l.take n).map (queue1 node)).length = n := by simp; omega
  rw [List.set_append_right _ _ (by rw [hl]; exact Nat.le_refl _), hl, Nat.sub_self, List.drop_eq_getElem_cons h, List.set_cons_zero, List.take_add_one, List.getElem?_eq_getElem h, List.map_append, List.append_assoc]
  rfl
theorem qPart_same (node : Int) (l : List Aft) (n : Nat) (h : n < l.length) (hn : l[n].node ≠ node) : qPart node l (n + 1) = qPart node l n := by
  rw [← qPart_succ node l n h]
  have e : queue1 node l[n] = (qPart node l n)[n]'(by rw [qPart_len node l n (Nat.le_of_lt h)]; exact h) := by rw [qPart_at node l n h]; simp [queue1, hn]
  rw [e, List.set_getElem_self]
/-- One cell stored: the record queued. -/
theorem own_queue {w : World} {base e n c g : Nat} {xs : List Aft} (h : w.ownsRow base e 5 (.slice (some ⟨g, 0, none⟩) n c) n (afR.flat xs)) {i : Nat} (hi : i < xs.length) :
    (w.setCell ⟨g, i * 5 + 4, none⟩ (.bool true)).ownsRow base e 5 (.slice (some ⟨g, 0, none⟩) n c) n (afR.flat (xs.set i ⟨xs[i].slot, xs[i].age, xs[i].node, xs[i].func, true⟩)) := by
  have h1 := (h.stored (i * 5 + 4) (.bool true)).1
  have e1 : (afR.flat xs).set (i * 5 + 4) (.bool true) = afR.flat (xs.set i ⟨xs[i].slot, xs[i].age, xs[i].node, xs[i].func, true⟩) := by
    have hl : (afR.flat xs).length = xs.length * 5 := afR.flat_len xs
    have at_ : ∀ (j : Nat) (hj : j < 5) (v : Value), (afR.cells xs[i])[j]? = some v → (afR.flat xs).set (i * 5 + j) v = afR.flat xs := by
      intro j hj v hv
      have h2 : (afR.flat xs)[i * 5 + j]? = some v := by rw [← hv]; exact afR.flat_at xs i hi j hj
      obtain ⟨h3, h4⟩ := List.getElem?_eq_some_iff.1 h2
      rw [← h4, List.set_getElem_self]
    have a0 : (afR.flat xs).set (i * 5) (.int .i64 xs[i].slot) = afR.flat xs := at_ 0 (by decide) _ rfl
    have a1 : (afR.flat xs).set (i * 5 + 1) (.int .i64 xs[i].age) = afR.flat xs := at_ 1 (by decide) _ rfl
    have a2 : (afR.flat xs).set (i * 5 + 2) (.int .i64 xs[i].node) = afR.flat xs := at_ 2 (by decide) _ rfl
    have a3 : (afR.flat xs).set (i * 5 + 3) (.int .i64 xs[i].func) = afR.flat xs := at_ 3 (by decide) _ rfl
    have e2 : ((((((afR.flat xs).set (i * 5) (.int .i64 xs[i].slot)).set (i * 5 + 1) (.int .i64 xs[i].age)).set (i * 5 + 2) (.int .i64 xs[i].node)).set (i * 5 + 3) (.int .i64 xs[i].func)).set (i * 5 + 4) (.bool true)) = afR.flat (xs.set i ⟨xs[i].slot, xs[i].age, xs[i].node, xs[i].func, true⟩) := by
      rw [← afR.flat_set xs i _ hi]
      rw [← putAt_nil ((((((afR.flat xs).set (i * 5) (.int .i64 xs[i].slot)).set (i * 5 + 1) (.int .i64 xs[i].age)).set (i * 5 + 2) (.int .i64 xs[i].node)).set (i * 5 + 3) (.int .i64 xs[i].func)).set (i * 5 + 4) (.bool true)) (i * 5 + 4 + 1)]
      rw [putAt_cons _ _ _ _ (by simp; omega), putAt_cons _ _ _ _ (by simp; omega), putAt_cons _ _ _ _ (by simp; omega), putAt_cons _ _ _ _ (by simp; omega), putAt_cons _ _ _ _ (by omega)]
      rfl
    rw [a0, a1, a2, a3] at e2
    exact e2
  rw [e1] at h1
  exact h1

set_option maxHeartbeats 6400000 in
set_option maxRecDepth 100000 in
theorem specQueue : DoesAsQ 31 := fun a node v w h => by
  have HA := Lib.hid h
  obtain ⟨_, _, _, rfl, ⟨A1, c1, rfl, s1⟩, ⟨A2, c2, rfl, s2⟩, ⟨A3, c3, rfl, s3⟩⟩ := h
  clear s1 s2 s3
  obtain ⟨W, hW⟩ : ∃ W, W = (w.alloc (.cells #[.slice A1 a.slots.ages.length c1, .slice A2 a.slots.used.length c2, .slice A3 a.list.length c3] 34)).alloc (.cells #[.slice none 0 0, .slice none 0 0, .slice none 0 0] 34) := ⟨_, rfl⟩
  have KW : Hid (Kept 0 0 w W) := by show Kept _ _ _ _; rw [hW]; exact (Kept.alloc0 _ _).alloc _
  have B0 : Hid (Blk W w.heap.size 34 #[.slice A1 a.slots.ages.length c1, .slice A2 a.slots.used.length c2, .slice A3 a.list.length c3]) := by show Blk _ _ _ _; rw [hW]; exact (Blk.new _ _ _).alloc _
  have R0 : Hid (Blk W (w.heap.size + 1) 34 #[.slice none 0 0, .slice none 0 0, .slice none 0 0]) := by
    show Blk _ _ _ _
    rw [hW]
    have := Blk.new (w.alloc (.cells #[.slice A1 a.slots.ages.length c1, .slice A2 a.slots.used.length c2, .slice A3 a.list.length c3] 34)) 34 #[.slice none 0 0, .slice none 0 0, .slice none 0 0]
    simpa using this
  have zW : w.heap.size + 2 ≤ W.heap.size := by rw [hW]; simp
  have HW := Lib.hid hW
  have b0 := ax0 B0.out
  have b1 := ax1 B0.out
  have b2 := ax2 B0.out
  clear hW
  have CO := Lib.hid (as8_any a _ W (HA.out.up KW.out))
  go_enter Try.func31, Try.ntmps31
  go_upto_region 1 with fail
  rw [← HW.out]
  go_wp2_with fail
  clear b0 b1 b2
  with_reducible refine CO.out.mono ?_
  rintro e w1 ⟨rfl, hk⟩
  have K1 := Lib.hid (KW.out.trans hk)
  have B1 := Lib.hid (B0.out.kept hk (.inl (Nat.le_refl _)))
  have R1 := Lib.hid (R0.out.kept hk (.inl (Nat.le_refl _)))
  have z1 := hk.size
  clear hk CO B0 R0 KW HW
  cases q1 : aftersB a
  · have E : Hid (queueA a node = asZ) := by show _ = _; simp [queueA, q1]
    have r0 := ax0 R1.out
    have f0 := R1.out.frozen 0
    have r1 := ax1 R1.out
    have f1 := R1.out.frozen 1
    have r2 := ax2 R1.out
    have f2 := R1.out.frozen 2
    have BF := blkA R1.out (.slice none 0 0) (.slice none 0 0) (.slice none 0 0)
    have F0 := ax0 BF
    have F1 := ax1 BF
    have F2 := ax2 BF
    have KF := Lib.hid (keptA w1 (w.heap.size + 1) (.slice none 0 0) (.slice none 0 0) (.slice none 0 0))
    clear q1 BF
    go_wp2_with fail
    refine bodyPost_ret (v := .agg #[.slice none 0 0, .slice none 0 0, .slice none 0 0]) (by simp [results, Try.results31, go_sem, F0, F1, F2]) rfl ⟨_, rfl, by rw [E.out]; exact OwnAs.asZ _ _ _, K1.out.trans2 KF.out (.inr (by omega))⟩
  have E : Hid (queueA a node = ⟨a.slots, a.list.map (queue1 node)⟩) := by show _ = _; simp [queueA, q1]
  have OK := aftersB_true.1 q1
  have ll := OK.len
  have CC := Lib.hid (copy8_any a _ w1 (HA.out.up K1.out) OK.slots ll)
  have b0 := ax0 B1.out
  have b1 := ax1 B1.out
  have b2 := ax2 B1.out
  clear q1 OK
  go_wp2_with fail
  clear b0 b1 b2
  with_reducible refine CC.out.mono ?_
  rintro e w2 ⟨_, rfl, ⟨_, _, _, rfl, ⟨D1, d1, rfl, o1⟩, ⟨D2, d2, rfl, o2⟩, ⟨D3, d3, rfl, o3⟩⟩, hk⟩
  obtain ⟨V, hV⟩ : ∃ V, V = w2.alloc (.cells #[.slice D1 a.slots.ages.length d1, .slice D2 a.slots.used.length d2, .slice D3 a.list.length d3] 34) := ⟨_, rfl⟩
  have kV : Kept 0 0 w2 V := by rw [hV]; exact Kept.alloc0 _ _
  have K2 := Lib.hid (K1.out.trans (hk.trans kV))
  have R2 := Lib.hid (R1.out.kept (hk.trans kV) (.inl (Nat.le_refl _)))
  have U2 : Hid (Blk V w2.heap.size 34 #[.slice D1 a.slots.ages.length d1, .slice D2 a.slots.used.length d2, .slice D3 a.list.length d3]) := by show Blk _ _ _ _; rw [hV]; exact Blk.new _ _ _
  have O1 := Lib.hid (o1.kept kV (.inl (Nat.le_refl _)))
  have O2 := Lib.hid (o2.kept kV (.inl (Nat.le_refl _)))
  have O3 : Hid (OwnZ V w1.heap.size w2.heap.size 42 5 D3 a.list.length d3 (afR.flat (qPart node a.list 0))) := by show OwnZ _ _ _ _ _ _ _ _ _; rw [qPart_zero]; exact o3.kept kV (.inl (Nat.le_refl _))
  have z2 := hk.size
  have zV := U2.out.lt
  have HV := Lib.hid hV
  clear hk kV CC B1 R1 K1 hV o1 o2 o3
  go_upto_region 4 with fail
  rw [← HV.out]
  go_wp2_with fail
  go_loopw [6] (fun i wr => ∃ n : Nat, n ≤ a.list.length ∧ i = .int .i64 n ∧ Hid (Blk wr w2.heap.size 34 #[.slice D1 a.slots.ages.length d1, .slice D2 a.slots.used.length d2, .slice D3 a.list.length d3]) ∧ Hid (Blk wr (w.heap.size + 1) 34 #[.slice none 0 0, .slice none 0 0, .slice none 0 0]) ∧ Hid (OwnZ wr w1.heap.size w2.heap.size 2 1 D1 a.slots.ages.length d1 (iR.flat a.slots.ages)) ∧ Hid (OwnZ wr w1.heap.size w2.heap.size 4 1 D2 a.slots.used.length d2 (bR.flat a.slots.used)) ∧ Hid (OwnZ wr w1.heap.size w2.heap.size 42 5 D3 a.list.length d3 (afR.flat (qPart node a.list n))) ∧ Hid (Kept 0 0 w wr) ∧ w2.heap.size < wr.heap.size) (fun i _ => a.list.length - (intOf i).toNat)
  case atStart => exact ⟨0, Nat.zero_le _, rfl, U2, R2, O1, O2, O3, K2, zV⟩
  case round =>
    clear U2 R2 O1 O2 O3 K2 zV
    obtain ⟨n, hn, rfl, U, R, O1, O2, O3, K, z⟩ := hrel
    have u2 := ax2 U.out
    by_cases hlt : n < a.list.length
    · have i1 : (n : Int) < (a.list.length : Int) := by omega
      rcases O3.out.form with ⟨_, h0, _⟩ | ⟨g, rfl, hlo, hhi, _⟩
      · omega
      have hpl : n < (qPart node a.list n).length := by rw [qPart_len node a.list n hn]; exact hlt
      have hat := qPart_at node a.list n hlt
      have e2 : wr.cell? ⟨g, n * 5 + 2, none⟩ = some (.int .i64 a.list[n].node) := own_at (R := afR) O3.out.1 hpl 2 (by rw [hat]; rfl)
      have e4 : wr.cell? ⟨g, n * 5 + 4, none⟩ = some (.bool a.list[n].queued) := own_at (R := afR) O3.out.1 hpl 4 (by rw [hat]; rfl)
      have g4 : wr.frozen? ⟨g, n * 5 + 4, none⟩ = false := O3.out.1.frozenAt _
      by_cases hq : a.list[n].node = node
      · have k4 : Kept g (g + 1) wr (wr.setCell ⟨g, n * 5 + 4, none⟩ (.bool true)) := (Kept.refl g (g + 1) wr).setCell (.inr ⟨Nat.le_refl _, Nat.lt_succ_self _⟩) _
        have N1 := Lib.hid (U.out.kept k4 (.inr (.inr (by omega))))
        have N2 := Lib.hid (R.out.kept k4 (.inr (.inl (by omega))))
        have N3 := Lib.hid (O3.out.other O1.out (by decide) k4)
        have N4 := Lib.hid (O3.out.other O2.out (by decide) k4)
        have N5 : Hid (OwnZ (wr.setCell ⟨g, n * 5 + 4, none⟩ (.bool true)) w1.heap.size w2.heap.size 42 5 (some ⟨g, 0, none⟩) a.list.length d3 (afR.flat (qPart node a.list (n + 1)))) := by
          have := own_queue O3.out.1 hpl
          refine ⟨?_, O3.out.2⟩
          rw [← qPart_succ node a.list n hlt]
          rw [hat] at this
          simpa [queue1, hq] using this
        have N6 := Lib.hid (K.out.trans2 k4 (.inr (by omega)))
        have N7 := k4.size
        clear k4 hat hpl
        go_wp2_with fail
        go_roundw
        case rel => exact ⟨n + 1, by omega, by go_num, N1, N2, N3, N4, N5, N6, by omega⟩
        case measure => simp [intOf]; omega
      · have N5 : Hid (OwnZ wr w1.heap.size w2.heap.size 42 5 (some ⟨g, 0, none⟩) a.list.length d3 (afR.flat (qPart node a.list (n + 1)))) := by show OwnZ _ _ _ _ _ _ _ _ _; rw [qPart_same node a.list n hlt hq]; exact O3.out
        clear hat hpl
        go_wp2_with fail
        go_roundw
        case rel => exact ⟨n + 1, by omega, by go_num, U, R, O1, O2, N5, K, z⟩
        case measure => simp [intOf]; omega
    · have j1 : ¬ (n : Int) < (a.list.length : Int) := by omega
      have u0 := ax0 U.out
      have u1 := ax1 U.out
      have r0 := ax0 R.out
      have f0 := R.out.frozen 0
      have r1 := ax1 R.out
      have f1 := R.out.frozen 1
      have r2 := ax2 R.out
      have f2 := R.out.frozen 2
      have BF := blkA R.out (.slice D1 a.slots.ages.length d1) (.slice D2 a.slots.used.length d2) (.slice D3 a.list.length d3)
      have F0 := ax0 BF
      have F1 := ax1 BF
      have F2 := ax2 BF
      have KF := Lib.hid (keptA wr (w.heap.size + 1) (.slice D1 a.slots.ages.length d1) (.slice D2 a.slots.used.length d2) (.slice D3 a.list.length d3))
      have q1 := KF.out.size
      clear BF
      go_wp2_with fail
      have LE : a.list.length = (a.list.map (queue1 node)).length := by simp
      refine bodyPost_ret (v := .agg #[.slice D1 a.slots.ages.length d1, .slice D2 a.slots.used.length d2, .slice D3 a.list.length d3]) (by simp [results, Try.results31, go_sem, F0, F1, F2]) rfl ⟨_, rfl, ?_, K.out.trans2 KF.out (.inr (by omega))⟩
      rw [E.out]
      have P3 := (O3.out.kept KF.out (.inr (.inr (by omega))))
      rw [qPart_all node a.list n (by omega)] at P3
      refine ⟨_, _, _, rfl, ⟨D1, d1, rfl, (O1.out.kept KF.out (.inr (.inr (by omega)))).wide (by omega) (by omega)⟩, ⟨D2, d2, rfl, (O2.out.kept KF.out (.inr (.inr (by omega)))).wide (by omega) (by omega)⟩, ⟨D3, d3, by rw [← LE], ?_⟩⟩
      rw [← LE]
      exact P3.wide (by omega) (by omega)
end Go.Proofs.Ytnnbfcmbcjkpoaa
